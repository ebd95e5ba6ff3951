/- Sk3, Sk4, Sk5, Sk6. -/
import Derived.Test.YtknkiaedgeejiaaGreatDoorSK17
import Derived.Deep.CutBlock
import Derived.Deep.CutRange
namespace Go.Proofs.YtknkiaedgeejiaaGreatDoor
set_option linter.unusedVariables false
set_option linter.unusedSimpArgs false
section
open Go.RowKit Go.Maps Go.Shelf Go.WideMaps
attribute [local go_sem] Oper.semAt_some
def Vals (cs:Array Value)(V:Nat→Nat→Value):Prop:=∀i j,i<131072→j<8→cs[i*8+j]?=some (V i j)
theorem Vals.set {cs:Array Value}{V:Nat→Nat→Value}(h:Vals cs V){k J:Nat}(hk:k<131072)(hJ:J<8)(X:Value):Vals (cs.setIfInBounds (k*8+J) X) (fun i j=>if j=J∧i=k then X else V i j):=by
 intro i j hi hj
 have hs:k*8+J<cs.size:=(Array.getElem?_eq_some_iff.1 (h k J hk hJ)).1
 rw [Array.getElem?_setIfInBounds]
 by_cases e:k*8+J=i*8+j
 ·have e1:i=k:=by omega
  have e2:j=J:=by omega
  subst e1 e2
  simp [hs]
 ·rw [if_neg e,h i j hi hj]
  show some (V i j)=some (if j=J∧i=k then X else V i j)
  rw [if_neg (by omega)]
theorem Vals.imp {cs:Array Value}{V V':Nat→Nat→Value}(h:Vals cs V)(hv:∀i j,i<131072→j<8→V i j=V' i j):Vals cs V':=fun i j hi hj=>by rw [h i j hi hj,hv i j hi hj]
def upV (V:Nat→Nat→Value)(J:Nat)(X:Value)(k:Nat)(i j:Nat):Value:=if j=J∧i<k then X else V i j
theorem upV_zero (V:Nat→Nat→Value)(J:Nat)(X:Value){i j:Nat}:upV V J X 0 i j=V i j:=by unfold upV;rw [if_neg (by omega)]
theorem upV_succ (V:Nat→Nat→Value)(J:Nat)(X:Value)(k:Nat)(i j:Nat):(if j=J∧i=k then X else upV V J X k i j)=upV V J X (k+1) i j:=by
 unfold upV
 by_cases h1:j=J
 ·by_cases h2:i=k
  ·rw [if_pos ⟨h1,h2⟩,if_pos ⟨h1,by omega⟩]
  ·by_cases h3:i<k
   ·rw [if_neg (by omega),if_pos ⟨h1,h3⟩,if_pos ⟨h1,by omega⟩]
   ·rw [if_neg (by omega),if_neg (by omega),if_neg (by omega)]
 ·rw [if_neg (by omega),if_neg (by omega),if_neg (by omega)]
set_option maxRecDepth 20000 in
set_option maxHeartbeats 4000000 in
theorem long2 {c:Code}(hc:Func.blockOf Tryz.f6 2=some c){Q:Exit→Act→World→Prop}{w:World}{B1 B2 B3 cc:Nat}{cs:Array Value}{V:Nat→Nat→Value}{u0 u1 u2 u3 u4 u5 u6 u7 u8 u9 u10 u11 u14 u15 u16 u17 u18 u19 u20 u21 u22 u23 u24 u25 u26 u27 u28 u29 u30 u31 u32 u33 u34 u35 u36 u37 u38 u39 u40 u41 u42 u43 u44 u45 u46 u47 u48 u49 u50 u51 u52 u53 u54 u55 u56 u57 u58 u59 u60 u61 u62 u63 u64 u65 u66 u67 u68 u69 u70 u71 u72 u73 u74 u75 u76 u77 u78 u79 u80 u81 u82 u83 u84 u85 u86 u87 u88 u89 u90 u91 u92 u93 u94 u95 u96 u97 u98 u99 u100 u101 u102 u103 u104 u105 u106 u107 u108 u109 u110 u111 u112 u113 u114 u115 u116 u117 u118 u119 u120 u121 u122 u123 u124 u125 u126 u127 u128 u129 u130 u131 u132 u133 u134 u135 u136 u137 u138 u139 u140 u141 u142 u143 u144 u145 u146 u147 u148 u149 u150 u151 u152 u153 u154 u155 u156 u157 u158 u159 u160 u161 u162 u163 u164 u165 u166 u167 u168 u169 u170 u171 u172 u173 u174 u175 u176 u177 u178 u179 u180 u181 u182 u183 u184 u185 u186 u187 u188 u189 u190:Value}
  (h1:w.heap[B1]?=some (.cells cs 46 (0,0))) (hV:Vals cs V) (h2:w.cell? ⟨B2,1,none⟩=some (.slice (some ⟨B1,0,none⟩) 131072 cc)) (h3:w.cell? ⟨B3,2,none⟩=some (.slice (some ⟨B2,0,none⟩) 1 1)) (hn2:B2≠B1) (hn3:B3≠B1) (hPn:∀{x} {a a1:Act} {w1:World},Q (.panic x) a w1→a.defers=a1.defers→Q (.panic x) a1 w1)
  (hQ:Hid (∀{wx:World} {v13 v127 v128 v129 v130 v131 v132 v133 v134 v135 v136 v137 v138:Value},(Touch w wx (fun b=>b=B1)∧∃cs',wx.heap[B1]?=some (.cells cs' 46 (0,0))∧Vals cs' (upV V 0 (.int .u8 14) 131072))→Q .normal {tmps:=#[u0,u1,u2,u3,u4,u5,u6,u7,u8,u9,u10,u11,.pointer (some ⟨B3,0,none⟩),v13,u14,u15,u16,u17,u18,u19,u20,u21,u22,u23,u24,u25,u26,u27,u28,u29,u30,u31,u32,u33,u34,u35,u36,u37,u38,u39,u40,u41,u42,u43,u44,u45,u46,u47,u48,u49,u50,u51,u52,u53,u54,u55,u56,u57,u58,u59,u60,u61,u62,u63,u64,u65,u66,u67,u68,u69,u70,u71,u72,u73,u74,u75,u76,u77,u78,u79,u80,u81,u82,u83,u84,u85,u86,u87,u88,u89,u90,u91,u92,u93,u94,u95,u96,u97,u98,u99,u100,u101,u102,u103,u104,u105,u106,u107,u108,u109,u110,u111,u112,u113,u114,u115,u116,u117,u118,u119,u120,u121,u122,u123,u124,u125,u126,v127,v128,v129,v130,v131,v132,v133,v134,v135,v136,v137,v138,u139,u140,u141,u142,u143,u144,u145,u146,u147,u148,u149,u150,u151,u152,u153,u154,u155,u156,u157,u158,u159,u160,u161,u162,u163,u164,u165,u166,u167,u168,u169,u170,u171,u172,u173,u174,u175,u176,u177,u178,u179,u180,u181,u182,u183,u184,u185,u186,u187,u188,u189,u190],defers:=[]} wx)):
  c.wp Tryz.prog Q {tmps:=#[u0,u1,u2,u3,u4,u5,u6,u7,u8,u9,u10,u11,.pointer (some ⟨B3,0,none⟩),.int .i64 0,u14,u15,u16,u17,u18,u19,u20,u21,u22,u23,u24,u25,u26,u27,u28,u29,u30,u31,u32,u33,u34,u35,u36,u37,u38,u39,u40,u41,u42,u43,u44,u45,u46,u47,u48,u49,u50,u51,u52,u53,u54,u55,u56,u57,u58,u59,u60,u61,u62,u63,u64,u65,u66,u67,u68,u69,u70,u71,u72,u73,u74,u75,u76,u77,u78,u79,u80,u81,u82,u83,u84,u85,u86,u87,u88,u89,u90,u91,u92,u93,u94,u95,u96,u97,u98,u99,u100,u101,u102,u103,u104,u105,u106,u107,u108,u109,u110,u111,u112,u113,u114,u115,u116,u117,u118,u119,u120,u121,u122,u123,u124,u125,u126,u127,u128,u129,u130,u131,u132,u133,u134,u135,u136,u137,u138,u139,u140,u141,u142,u143,u144,u145,u146,u147,u148,u149,u150,u151,u152,u153,u154,u155,u156,u157,u158,u159,u160,u161,u162,u163,u164,u165,u166,u167,u168,u169,u170,u171,u172,u173,u174,u175,u176,u177,u178,u179,u180,u181,u182,u183,u184,u185,u186,u187,u188,u189,u190],defers:=[]} w:=by
 conv at hc=>lhs;whnf
 simp only [Option.some.injEq] at hc
 subst hc
 have hl2:B2<w.heap.size:=cell_size h2
 have hl3:B3<w.heap.size:=cell_size h3
 replace h1:=Lib.hid h1
 replace h2:=Lib.hid h2
 replace h3:=Lib.hid h3
 replace hV:=Lib.hid hV
 go_wp2_with fail
 go_loopw [13] (fun i wr=>∃k:Nat,k≤131072∧i=.int .i64 k∧Hid (Touch w wr (fun b=>b=B1)∧∃cs',wr.heap[B1]?=some (.cells cs' 46 (0,0))∧Vals cs' (upV V 0 (.int .u8 14) k))) (fun i _=>131072-(intOf i).toNat)
 case atStart=>exact⟨0,Nat.zero_le _,rfl,Lib.hid ⟨Touch.refl _ _,_,h1.out,hV.out.imp (fun i j _ _=>(upV_zero _ _ _).symm)⟩⟩
 case round=>
  obtain⟨k,hk,rfl,hr⟩:=hrel
  obtain⟨hT,cs',hb,hv⟩:=hr.out
  have hb3:wr.cell? ⟨B3,2,none⟩=some (.slice (some ⟨B2,0,none⟩) 1 1):=(World.cell?_of_block (w:=w) (hT.block B3 hl3 hn3)).trans h3.out
  have hb2:wr.cell? ⟨B2,1,none⟩=some (.slice (some ⟨B1,0,none⟩) 131072 cc):=(World.cell?_of_block (w:=w) (hT.block B2 hl2 hn2)).trans h2.out
  have m1:B1<wr.heap.size:=(Array.getElem?_eq_some_iff.1 hb).1
  have m2:B2<wr.heap.size:=cell_size hb2
  have m3:B3<wr.heap.size:=cell_size hb3
  by_cases hlt:k<131072
  ·have j1:decide ((k:Int)<131072)=true:=by simp;omega
   have j2:(k:Int)<131072:=by omega
   have hbk:=Lib.hid hb
   have c0:∃u,wr.cell? ⟨B1,k*8,none⟩=some u:=⟨_,by rw [blk_cell hb];exact hv k 0 hlt (by decide)⟩
   obtain⟨u,c0⟩:=c0
   have f0:wr.frozen? ⟨B1,k*8,none⟩=false:=by simp [World.frozen?,hb]
   have hfin:=Lib.hid (show Touch w (wr.setCell ⟨B1,k*8,none⟩ (.int .u8 14)) (fun b=>b=B1)∧∃cs',(wr.setCell ⟨B1,k*8,none⟩ (.int .u8 14)).heap[B1]?=some (.cells cs' 46 (0,0))∧Vals cs' (upV V 0 (.int .u8 14) (k+1)) from
    ⟨hT.setCell (a:=⟨B1,k*8,none⟩) (fun _=>rfl) _,_,blk_set (i:=k*8) _ hb,(hv.set hlt (J:=0) (by decide) (.int .u8 14)).imp (fun i j _ _=>upV_succ _ _ _ _ _ _)⟩)
   clear hb hv hT hr
   go_wp2_with fail
   go_roundw
   case rel=>exact⟨k+1,by omega,by go_num,hfin⟩
   case measure=>simp [intOf];omega
  ·obtain rfl:k=131072:=by omega
   have j1:decide (((131072:Nat):Int)<131072)=false:=by decide
   replace hT:=Lib.hid hT
   replace hb:=Lib.hid hb
   replace hv:=Lib.hid hv
   go_wp2_with fail
   exact hQ.out ⟨hT.out,cs',hb.out,hv.out⟩
set_option maxRecDepth 20000 in
set_option maxHeartbeats 4000000 in
theorem long4 {c:Code}(hc:Func.blockOf Tryz.f6 4=some c){Q:Exit→Act→World→Prop}{w:World}{B1 B2 B3 cc:Nat}{cs:Array Value}{V:Nat→Nat→Value}{u0 u1 u2 u3 u4 u5 u6 u7 u8 u9 u10 u11 u13 u14 u15 u17 u18 u19 u20 u21 u22 u23 u24 u25 u26 u27 u28 u29 u30 u31 u32 u33 u34 u35 u36 u37 u38 u39 u40 u41 u42 u43 u44 u45 u46 u47 u48 u49 u50 u51 u52 u53 u54 u55 u56 u57 u58 u59 u60 u61 u62 u63 u64 u65 u66 u67 u68 u69 u70 u71 u72 u73 u74 u75 u76 u77 u78 u79 u80 u81 u82 u83 u84 u85 u86 u87 u88 u89 u90 u91 u92 u93 u94 u95 u96 u97 u98 u99 u100 u101 u102 u103 u104 u105 u106 u107 u108 u109 u110 u111 u112 u113 u114 u115 u116 u117 u118 u119 u120 u121 u122 u123 u124 u125 u126 u127 u128 u129 u130 u131 u132 u133 u134 u135 u136 u137 u138 u139 u140 u141 u142 u143 u144 u145 u146 u147 u148 u149 u150 u151 u152 u153 u154 u155 u156 u157 u158 u159 u160 u161 u162 u163 u164 u165 u166 u167 u168 u169 u170 u171 u172 u173 u174 u175 u176 u177 u178 u179 u180 u181 u182 u183 u184 u185 u186 u187 u188 u189 u190:Value}
  (h1:w.heap[B1]?=some (.cells cs 46 (0,0))) (hV:Vals cs V) (h2:w.cell? ⟨B2,1,none⟩=some (.slice (some ⟨B1,0,none⟩) 131072 cc)) (h3:w.cell? ⟨B3,2,none⟩=some (.slice (some ⟨B2,0,none⟩) 1 1)) (hn2:B2≠B1) (hn3:B3≠B1) (hPn:∀{x} {a a1:Act} {w1:World},Q (.panic x) a w1→a.defers=a1.defers→Q (.panic x) a1 w1)
  (hQ:Hid (∀{wx:World} {v16 v146 v147 v148 v149 v150 v151 v152 v153 v154 v155 v156 v157:Value},(Touch w wx (fun b=>b=B1)∧∃cs',wx.heap[B1]?=some (.cells cs' 46 (0,0))∧Vals cs' (upV V 2 (.string ⟨#[120,120]⟩) 131072))→Q .normal {tmps:=#[u0,u1,u2,u3,u4,u5,u6,u7,u8,u9,u10,u11,.pointer (some ⟨B3,0,none⟩),u13,u14,u15,v16,u17,u18,u19,u20,u21,u22,u23,u24,u25,u26,u27,u28,u29,u30,u31,u32,u33,u34,u35,u36,u37,u38,u39,u40,u41,u42,u43,u44,u45,u46,u47,u48,u49,u50,u51,u52,u53,u54,u55,u56,u57,u58,u59,u60,u61,u62,u63,u64,u65,u66,u67,u68,u69,u70,u71,u72,u73,u74,u75,u76,u77,u78,u79,u80,u81,u82,u83,u84,u85,u86,u87,u88,u89,u90,u91,u92,u93,u94,u95,u96,u97,u98,u99,u100,u101,u102,u103,u104,u105,u106,u107,u108,u109,u110,u111,u112,u113,u114,u115,u116,u117,u118,u119,u120,u121,u122,u123,u124,u125,u126,u127,u128,u129,u130,u131,u132,u133,u134,u135,u136,u137,u138,u139,u140,u141,u142,u143,u144,u145,v146,v147,v148,v149,v150,v151,v152,v153,v154,v155,v156,v157,u158,u159,u160,u161,u162,u163,u164,u165,u166,u167,u168,u169,u170,u171,u172,u173,u174,u175,u176,u177,u178,u179,u180,u181,u182,u183,u184,u185,u186,u187,u188,u189,u190],defers:=[]} wx)):
  c.wp Tryz.prog Q {tmps:=#[u0,u1,u2,u3,u4,u5,u6,u7,u8,u9,u10,u11,.pointer (some ⟨B3,0,none⟩),u13,u14,u15,.int .i64 0,u17,u18,u19,u20,u21,u22,u23,u24,u25,u26,u27,u28,u29,u30,u31,u32,u33,u34,u35,u36,u37,u38,u39,u40,u41,u42,u43,u44,u45,u46,u47,u48,u49,u50,u51,u52,u53,u54,u55,u56,u57,u58,u59,u60,u61,u62,u63,u64,u65,u66,u67,u68,u69,u70,u71,u72,u73,u74,u75,u76,u77,u78,u79,u80,u81,u82,u83,u84,u85,u86,u87,u88,u89,u90,u91,u92,u93,u94,u95,u96,u97,u98,u99,u100,u101,u102,u103,u104,u105,u106,u107,u108,u109,u110,u111,u112,u113,u114,u115,u116,u117,u118,u119,u120,u121,u122,u123,u124,u125,u126,u127,u128,u129,u130,u131,u132,u133,u134,u135,u136,u137,u138,u139,u140,u141,u142,u143,u144,u145,u146,u147,u148,u149,u150,u151,u152,u153,u154,u155,u156,u157,u158,u159,u160,u161,u162,u163,u164,u165,u166,u167,u168,u169,u170,u171,u172,u173,u174,u175,u176,u177,u178,u179,u180,u181,u182,u183,u184,u185,u186,u187,u188,u189,u190],defers:=[]} w:=by
 conv at hc=>lhs;whnf
 simp only [Option.some.injEq] at hc
 subst hc
 have hl2:B2<w.heap.size:=cell_size h2
 have hl3:B3<w.heap.size:=cell_size h3
 replace h1:=Lib.hid h1
 replace h2:=Lib.hid h2
 replace h3:=Lib.hid h3
 replace hV:=Lib.hid hV
 go_wp2_with fail
 go_loopw [16] (fun i wr=>∃k:Nat,k≤131072∧i=.int .i64 k∧Hid (Touch w wr (fun b=>b=B1)∧∃cs',wr.heap[B1]?=some (.cells cs' 46 (0,0))∧Vals cs' (upV V 2 (.string ⟨#[120,120]⟩) k))) (fun i _=>131072-(intOf i).toNat)
 case atStart=>exact⟨0,Nat.zero_le _,rfl,Lib.hid ⟨Touch.refl _ _,_,h1.out,hV.out.imp (fun i j _ _=>(upV_zero _ _ _).symm)⟩⟩
 case round=>
  obtain⟨k,hk,rfl,hr⟩:=hrel
  obtain⟨hT,cs',hb,hv⟩:=hr.out
  have hb3:wr.cell? ⟨B3,2,none⟩=some (.slice (some ⟨B2,0,none⟩) 1 1):=(World.cell?_of_block (w:=w) (hT.block B3 hl3 hn3)).trans h3.out
  have hb2:wr.cell? ⟨B2,1,none⟩=some (.slice (some ⟨B1,0,none⟩) 131072 cc):=(World.cell?_of_block (w:=w) (hT.block B2 hl2 hn2)).trans h2.out
  have m1:B1<wr.heap.size:=(Array.getElem?_eq_some_iff.1 hb).1
  have m2:B2<wr.heap.size:=cell_size hb2
  have m3:B3<wr.heap.size:=cell_size hb3
  by_cases hlt:k<131072
  ·have j1:decide ((k:Int)<131072)=true:=by simp;omega
   have j2:(k:Int)<131072:=by omega
   have hbk:=Lib.hid hb
   have c0:∃u,wr.cell? ⟨B1,k*8+2,none⟩=some u:=⟨_,by rw [blk_cell hb];exact hv k 2 hlt (by decide)⟩
   obtain⟨u,c0⟩:=c0
   have f0:wr.frozen? ⟨B1,k*8+2,none⟩=false:=by simp [World.frozen?,hb]
   have hfin:=Lib.hid (show Touch w (wr.setCell ⟨B1,k*8+2,none⟩ (.string ⟨#[120,120]⟩)) (fun b=>b=B1)∧∃cs',(wr.setCell ⟨B1,k*8+2,none⟩ (.string ⟨#[120,120]⟩)).heap[B1]?=some (.cells cs' 46 (0,0))∧Vals cs' (upV V 2 (.string ⟨#[120,120]⟩) (k+1)) from
    ⟨hT.setCell (a:=⟨B1,k*8+2,none⟩) (fun _=>rfl) _,_,blk_set (i:=k*8+2) _ hb,(hv.set hlt (J:=2) (by decide) (.string ⟨#[120,120]⟩)).imp (fun i j _ _=>upV_succ _ _ _ _ _ _)⟩)
   clear hb hv hT hr
   go_wp2_with fail
   go_roundw
   case rel=>exact⟨k+1,by omega,by go_num,hfin⟩
   case measure=>simp [intOf];omega
  ·obtain rfl:k=131072:=by omega
   have j1:decide (((131072:Nat):Int)<131072)=false:=by decide
   replace hT:=Lib.hid hT
   replace hb:=Lib.hid hb
   replace hv:=Lib.hid hv
   go_wp2_with fail
   exact hQ.out ⟨hT.out,cs',hb.out,hv.out⟩
end
section
open Go.RowKit Go.Maps Go.Shelf Go.WideMaps
attribute [local go_sem] Oper.semAt_some
theorem at6_ins {cs:Array Value}{k:Nat}{d:Ins}{va vl:Value}(h:(cs.toList.drop (k*8)).take 8=insV d va vl):∀j u,(insV d va vl)[j]?=some u→cs[k*8+j]?=some u:=fun _ _ hj=>at6_row h hj
set_option maxRecDepth 100000 in
set_option maxHeartbeats 4000000 in
theorem kMain_read {W:World}{s:Nat}(h0:W.heap[s]?=some (.cells #[.string ⟨#[120]⟩,.string ⟨#[110,117,108,108]⟩] 9 (0,0)))(h1:W.heap[s+1]?=some (.cells #[.string ⟨#[97]⟩,.string ⟨#[98]⟩] 9 (0,0)))(h2:W.heap[s+1+1]?=some (.cells #[.string ⟨#[120]⟩,.string ⟨#[121]⟩] 9 (0,0)))(h3:W.heap[s+1+1+1]?=some (.cells #[.string ⟨#[110,117,108,108]⟩] 9 (0,0)))(h4:W.heap[s+1+1+1+1]?=some (.cells #[.string ⟨#[97]⟩,.string ⟨#[98]⟩] 9 (0,0)))(h5:W.heap[s+1+1+1+1+1]?=some (.cells #[.string ⟨#[97]⟩] 9 (0,0)))(h6:W.heap[s+1+1+1+1+1+1]?=some (.cells #[.int .u8 1,.string ⟨#[120]⟩,.string ⟨#[]⟩,.string ⟨#[]⟩,.int .i64 2,.string ⟨#[]⟩,.slice none 0 0,.slice none 0 0,.int .u8 2,.string ⟨#[109]⟩,.string ⟨#[]⟩,.string ⟨#[]⟩,.int .i64 64,.string ⟨#[]⟩,.slice none 0 0,.slice none 0 0,.int .u8 3,.string ⟨#[122]⟩,.string ⟨#[]⟩,.string ⟨#[]⟩,.int .i64 0,.string ⟨#[]⟩,.slice none 0 0,.slice none 0 0,.int .u8 4,.string ⟨#[102]⟩,.string ⟨#[]⟩,.string ⟨#[]⟩,.int .i64 0,.string ⟨#[109,97,105,110]⟩,.slice none 0 0,.slice none 0 0,.int .u8 5,.string ⟨#[99]⟩,.string ⟨#[110,117,108,108]⟩,.string ⟨#[]⟩,.int .i64 0,.string ⟨#[]⟩,.slice none 0 0,.slice none 0 0,.int .u8 6,.string ⟨#[104]⟩,.string ⟨#[]⟩,.string ⟨#[]⟩,.int .i64 0,.string ⟨#[]⟩,.slice (some ⟨s,0,none⟩) 2 2,.slice (some ⟨s+1,0,none⟩) 2 2,.int .u8 7,.string ⟨#[100]⟩,.string ⟨#[120]⟩,.string ⟨#[]⟩,.int .i64 10,.string ⟨#[]⟩,.slice none 0 0,.slice none 0 0,.int .u8 8,.string ⟨#[108]⟩,.string ⟨#[100]⟩,.string ⟨#[]⟩,.int .i64 0,.string ⟨#[]⟩,.slice none 0 0,.slice none 0 0,.int .u8 9,.string ⟨#[]⟩,.string ⟨#[120]⟩,.string ⟨#[110,117,108,108]⟩,.int .i64 0,.string ⟨#[]⟩,.slice none 0 0,.slice none 0 0,.int .u8 10,.string ⟨#[114]⟩,.string ⟨#[]⟩,.string ⟨#[]⟩,.int .i64 0,.string ⟨#[103]⟩,.slice (some ⟨s+1+1,0,none⟩) 2 2,.slice none 0 0,.int .u8 10,.string ⟨#[]⟩,.string ⟨#[]⟩,.string ⟨#[]⟩,.int .i64 0,.string ⟨#[103]⟩,.slice none 0 0,.slice none 0 0,.int .u8 11,.string ⟨#[105]⟩,.string ⟨#[102]⟩,.string ⟨#[]⟩,.int .i64 0,.string ⟨#[]⟩,.slice (some ⟨s+1+1+1,0,none⟩) 1 1,.slice none 0 0,.int .u8 11,.string ⟨#[]⟩,.string ⟨#[102]⟩,.string ⟨#[]⟩,.int .i64 0,.string ⟨#[]⟩,.slice none 0 0,.slice none 0 0,.int .u8 12,.string ⟨#[]⟩,.string ⟨#[]⟩,.string ⟨#[]⟩,.int .i64 0,.string ⟨#[]⟩,.slice none 0 0,.slice (some ⟨s+1+1+1+1,0,none⟩) 2 2,.int .u8 13,.string ⟨#[]⟩,.string ⟨#[]⟩,.string ⟨#[]⟩,.int .i64 0,.string ⟨#[]⟩,.slice none 0 0,.slice (some ⟨s+1+1+1+1+1,0,none⟩) 1 1,.int .u8 14,.string ⟨#[]⟩,.string ⟨#[120]⟩,.string ⟨#[]⟩,.int .i64 0,.string ⟨#[]⟩,.slice none 0 0,.slice none 0 0,.int .u8 14,.string ⟨#[]⟩,.string ⟨#[]⟩,.string ⟨#[]⟩,.int .i64 0,.string ⟨#[]⟩,.slice none 0 0,.slice none 0 0] 46 (0,0)))(h7:W.heap[s+1+1+1+1+1+1+1]?=some (.cells #[.string ⟨#[97]⟩,.slice (some ⟨s+1+1+1+1+1+1,0,none⟩) 17 17,.string ⟨#[98]⟩,.slice none 0 0] 43 (0,0)))(h8:W.heap[s+1+1+1+1+1+1+1+1]?=some (.cells #[.string ⟨#[112]⟩] 9 (0,0)))(h9:W.heap[s+1+1+1+1+1+1+1+1+1]?=some (.cells #[.string ⟨#[109,97,105,110]⟩,.slice none 0 0,.slice (some ⟨s+1+1+1+1+1+1+1,0,none⟩) 2 2,.string ⟨#[103]⟩,.slice (some ⟨s+1+1+1+1+1+1+1+1,0,none⟩) 1 1,.slice none 0 0] 40 (0,0))):RdE 3 RdFunC W (.slice (some ⟨s+1+1+1+1+1+1+1+1+1,0,none⟩) 2 2) kMain:=by
 have n0:=RdC.nil W
 have r0:=rdc_block (ss:=[⟨#[120]⟩,⟨#[110,117,108,108]⟩]) h0
 have r1:=rdc_block (ss:=[⟨#[97]⟩,⟨#[98]⟩]) h1
 have r2:=rdc_block (ss:=[⟨#[120]⟩,⟨#[121]⟩]) h2
 have r3:=rdc_block (ss:=[⟨#[110,117,108,108]⟩]) h3
 have r4:=rdc_block (ss:=[⟨#[97]⟩,⟨#[98]⟩]) h4
 have r5:=rdc_block (ss:=[⟨#[97]⟩]) h5
 have r8:=rdc_block (ss:=[⟨#[112]⟩]) h8
 have hcode:RdE 8 RdInsC W (.slice (some ⟨s+1+1+1+1+1+1,0,none⟩) 17 17) kCode:=by
  refine rde6_block h6 rfl (fun i d hi=>?_)
  have hlt:i<17:=(List.getElem?_eq_some_iff.1 hi).1
  rcases (show i=0∨i=1∨i=2∨i=3∨i=4∨i=5∨i=6∨i=7∨i=8∨i=9∨i=10∨i=11∨i=12∨i=13∨i=14∨i=15∨i=16 from by omega) with rfl | rfl | rfl | rfl | rfl | rfl | rfl | rfl | rfl | rfl | rfl | rfl | rfl | rfl | rfl | rfl | rfl
  ·obtain rfl:=Option.some.inj hi
   exact⟨_,⟨_,_,rfl,n0,n0⟩,rfl,at6_ins (k:=0) rfl⟩
  ·obtain rfl:=Option.some.inj hi
   exact⟨_,⟨_,_,rfl,n0,n0⟩,rfl,at6_ins (k:=1) rfl⟩
  ·obtain rfl:=Option.some.inj hi
   exact⟨_,⟨_,_,rfl,n0,n0⟩,rfl,at6_ins (k:=2) rfl⟩
  ·obtain rfl:=Option.some.inj hi
   exact⟨_,⟨_,_,rfl,n0,n0⟩,rfl,at6_ins (k:=3) rfl⟩
  ·obtain rfl:=Option.some.inj hi
   exact⟨_,⟨_,_,rfl,n0,n0⟩,rfl,at6_ins (k:=4) rfl⟩
  ·obtain rfl:=Option.some.inj hi
   exact⟨_,⟨_,_,rfl,r0,r1⟩,rfl,at6_ins (k:=5) rfl⟩
  ·obtain rfl:=Option.some.inj hi
   exact⟨_,⟨_,_,rfl,n0,n0⟩,rfl,at6_ins (k:=6) rfl⟩
  ·obtain rfl:=Option.some.inj hi
   exact⟨_,⟨_,_,rfl,n0,n0⟩,rfl,at6_ins (k:=7) rfl⟩
  ·obtain rfl:=Option.some.inj hi
   exact⟨_,⟨_,_,rfl,n0,n0⟩,rfl,at6_ins (k:=8) rfl⟩
  ·obtain rfl:=Option.some.inj hi
   exact⟨_,⟨_,_,rfl,r2,n0⟩,rfl,at6_ins (k:=9) rfl⟩
  ·obtain rfl:=Option.some.inj hi
   exact⟨_,⟨_,_,rfl,n0,n0⟩,rfl,at6_ins (k:=10) rfl⟩
  ·obtain rfl:=Option.some.inj hi
   exact⟨_,⟨_,_,rfl,r3,n0⟩,rfl,at6_ins (k:=11) rfl⟩
  ·obtain rfl:=Option.some.inj hi
   exact⟨_,⟨_,_,rfl,n0,n0⟩,rfl,at6_ins (k:=12) rfl⟩
  ·obtain rfl:=Option.some.inj hi
   exact⟨_,⟨_,_,rfl,n0,r4⟩,rfl,at6_ins (k:=13) rfl⟩
  ·obtain rfl:=Option.some.inj hi
   exact⟨_,⟨_,_,rfl,n0,r5⟩,rfl,at6_ins (k:=14) rfl⟩
  ·obtain rfl:=Option.some.inj hi
   exact⟨_,⟨_,_,rfl,n0,n0⟩,rfl,at6_ins (k:=15) rfl⟩
  ·obtain rfl:=Option.some.inj hi
   exact⟨_,⟨_,_,rfl,n0,n0⟩,rfl,at6_ins (k:=16) rfl⟩
 have hblk:RdE 2 RdBlkC W (.slice (some ⟨s+1+1+1+1+1+1+1,0,none⟩) 2 2) [⟨⟨#[97]⟩,kCode⟩,⟨⟨#[98]⟩,[]⟩]:=by
  refine rde6_block h7 rfl (fun i d hi=>?_)
  have hlt:i<2:=(List.getElem?_eq_some_iff.1 hi).1
  rcases (show i=0∨i=1 from by omega) with rfl | rfl
  ·obtain rfl:=Option.some.inj hi
   exact⟨_,⟨_,rfl,hcode⟩,rfl,fun j u hj=>at6_row (k:=0) (n:=2) rfl hj⟩
  ·obtain rfl:=Option.some.inj hi
   exact⟨_,⟨_,rfl,RdE.nil W⟩,rfl,fun j u hj=>at6_row (k:=2) (n:=2) rfl hj⟩
 refine rde6_block h9 rfl (fun i d hi=>?_)
 have hlt:i<2:=(List.getElem?_eq_some_iff.1 hi).1
 rcases (show i=0∨i=1 from by omega) with rfl | rfl
 ·obtain rfl:=Option.some.inj hi
  exact⟨_,⟨_,_,rfl,n0,hblk⟩,rfl,fun j u hj=>at6_row (k:=0) (n:=3) rfl hj⟩
 ·obtain rfl:=Option.some.inj hi
  exact⟨_,⟨_,_,rfl,r8,RdE.nil W⟩,rfl,fun j u hj=>at6_row (k:=3) (n:=3) rfl hj⟩
theorem long_read {W:World}{B1 B2 B4:Nat}{cs:Array Value}{V:Nat→Nat→Value}{c:Ins}(h1:W.heap[B1]?=some (.cells cs 46 (0,0)))(hv:Vals cs V)(hc:c.args=[]∧c.labels=[])(hV:∀i j,i<131072→j<8→(insV c (.slice none 0 0) (.slice none 0 0))[j]?=some (V i j))(h2:W.heap[B2]?=some (.cells #[.string ⟨#[97]⟩,.slice (some ⟨B1,0,none⟩) 131072 131072] 43 (0,0)))(h4:W.heap[B4]?=some (.cells #[.string ⟨#[102]⟩,.slice none 0 0,.slice (some ⟨B2,0,none⟩) 1 1] 40 (0,0))):RdE 3 RdFunC W (.slice (some ⟨B4,0,none⟩) 1 1) (kLong c):=by
 have hcode:RdE 8 RdInsC W (.slice (some ⟨B1,0,none⟩) 131072 131072) (List.replicate 131072 c):=by
  refine .inr ⟨B1,0,131072,by rw [List.length_replicate],(Array.getElem?_eq_some_iff.1 h1).1,fun i d hi=>?_⟩
  rw [List.getElem?_replicate] at hi
  split at hi
  case isFalse=>cases hi
  rename_i hi1
  obtain rfl:=Option.some.inj hi
  refine⟨insV c (.slice none 0 0) (.slice none 0 0),⟨_,_,rfl,by rw [hc.1];exact RdC.nil W,by rw [hc.2];exact RdC.nil W⟩,rfl,fun j u hj=>?_⟩
  have hj8:j<8:=(List.getElem?_eq_some_iff.1 hj).1
  rw [blk_cell h1,Nat.zero_add,hv i j hi1 hj8,←hV i j hi1 hj8]
  exact hj
 unfold kLong
 generalize List.replicate 131072 c=L at hcode
 refine rde6_block h4 rfl (fun i x hi=>?_)
 obtain⟨rfl,rfl⟩:=one_at6 hi
 refine⟨_,⟨.slice none 0 0,.slice (some ⟨B2,0,none⟩) 1 1,rfl,RdC.nil _,?_⟩,rfl,fun j u hj=>at6_row (n:=3) rfl hj⟩
 refine rde6_block h2 rfl (fun i x hi=>?_)
 obtain⟨rfl,rfl⟩:=one_at6 hi
 exact⟨_,⟨_,rfl,hcode⟩,rfl,fun j u hj=>at6_row (n:=2) rfl hj⟩
def zIns:Array Value:=#[.int .u8 0,.string ⟨#[]⟩,.string ⟨#[]⟩,.string ⟨#[]⟩,.int .i64 0,.string ⟨#[]⟩,.slice none 0 0,.slice none 0 0]
theorem made_vals {w:World}{g:Nat}(h:w.ownsRow g 46 8 (.slice (some ⟨g,0,none⟩) 131072 131072) 131072 (madeCells zIns (131072*8)).toList):∃cs,w.heap[g]?=some (.cells cs 46 (0,0))∧Vals cs (fun _ j=>zIns[j]!):=by
 rcases h.2 with ⟨e,-⟩ | ⟨g',cap,cur,e,h1,h2,h3,h4,h5,h6⟩
 ·cases e
 ·simp only [Value.slice.injEq,Option.some.injEq,Addr.mk.injEq] at e
  obtain⟨⟨rfl,-⟩,-,rfl⟩:=e
  refine⟨cur,h2,fun i j hi hj=>?_⟩
  have hk:i*8+j<131072*8:=by omega
  have e1:cur[i*8+j]?=(cur.toList.take (131072*8))[i*8+j]?:=by
   rw [List.getElem?_take,if_pos hk,Array.getElem?_toList]
  rw [e1,h6,Array.getElem?_toList]
  unfold madeCells
  rw [Array.getElem?_map,Array.getElem?_range,if_pos hk]
  show some (zIns[(i*8+j)%8]!)=some (zIns[j]!)
  rw [show (i*8+j)%8=j from by omega]
end
section
open Go.RowKit Go.Maps Go.Shelf Go.WideMaps
attribute [local go_sem] Oper.semAt_some
theorem infoInsK:(Tryz.prog.info? 46).map (fun i=>(i.zero,i.size,i.bytes))=some (some (.agg #[.int .u8 0,.string ⟨#[]⟩,.string ⟨#[]⟩,.string ⟨#[]⟩,.int .i64 0,.string ⟨#[]⟩,.slice none 0 0,.slice none 0 0]),8,128):=by kernel_rfl
theorem rdfc_belowK {w w':World}{v:Value}{P:List Fun}(h:RdE 3 RdFunC w v P)(hWB:Below w.heap.size w w'):RdE 3 RdFunC w' v P:=RdE.below (fun _ _ x=>(by obtain⟨vp,vb,e,h1,h2⟩:=x;exact⟨vp,vb,e,h1.below hWB,RdE.below (fun _ _ y=>(by obtain⟨vc,e,h3⟩:=y;exact⟨vc,e,RdE.below (fun _ _ z=>(by obtain⟨va,vl,e,h4,h5⟩:=z;exact⟨va,vl,e,h4.below hWB,h5.below hWB⟩)) h3 hWB⟩)) h2 hWB⟩)) h hWB
theorem no_print {w:World}{v:Value}{P:List Fun}(hP:P∈kNo)(h:RdE 3 RdFunC w v P):Calls Tryz.prog 10 #[.agg #[v]] w fun e w'=>e=.returned (.tuple #[.string ⟨#[]⟩,.int .i64 5])∧Below w.heap.size w w':=by
 have k:=sm_ok (kNo_sm P hP)
 have hp:=print_any k.1 k.2.1 k.2.2 h
 rw [kNo_E P hP,kNo_S P hP] at hp
 exact hp
set_option maxRecDepth 100000 in
set_option maxHeartbeats 16000000 in
theorem known_main (w:World):∃W1,W1=(((((((((((w.alloc (.cells #[.string ⟨#[120]⟩,.string ⟨#[110,117,108,108]⟩] 9)).alloc (.cells #[.string ⟨#[97]⟩,.string ⟨#[98]⟩] 9)).alloc (.cells #[.string ⟨#[120]⟩,.string ⟨#[121]⟩] 9)).alloc (.cells #[.string ⟨#[110,117,108,108]⟩] 9)).alloc (.cells #[.string ⟨#[97]⟩,.string ⟨#[98]⟩] 9)).alloc (.cells #[.string ⟨#[97]⟩] 9)).alloc (.cells #[.int .u8 1,.string ⟨#[120]⟩,.string ⟨#[]⟩,.string ⟨#[]⟩,.int .i64 2,.string ⟨#[]⟩,.slice none 0 0,.slice none 0 0,.int .u8 2,.string ⟨#[109]⟩,.string ⟨#[]⟩,.string ⟨#[]⟩,.int .i64 64,.string ⟨#[]⟩,.slice none 0 0,.slice none 0 0,.int .u8 3,.string ⟨#[122]⟩,.string ⟨#[]⟩,.string ⟨#[]⟩,.int .i64 0,.string ⟨#[]⟩,.slice none 0 0,.slice none 0 0,.int .u8 4,.string ⟨#[102]⟩,.string ⟨#[]⟩,.string ⟨#[]⟩,.int .i64 0,.string ⟨#[109,97,105,110]⟩,.slice none 0 0,.slice none 0 0,.int .u8 5,.string ⟨#[99]⟩,.string ⟨#[110,117,108,108]⟩,.string ⟨#[]⟩,.int .i64 0,.string ⟨#[]⟩,.slice none 0 0,.slice none 0 0,.int .u8 6,.string ⟨#[104]⟩,.string ⟨#[]⟩,.string ⟨#[]⟩,.int .i64 0,.string ⟨#[]⟩,.slice (some ⟨w.heap.size,0,none⟩) 2 2,.slice (some ⟨w.heap.size+1,0,none⟩) 2 2,.int .u8 7,.string ⟨#[100]⟩,.string ⟨#[120]⟩,.string ⟨#[]⟩,.int .i64 10,.string ⟨#[]⟩,.slice none 0 0,.slice none 0 0,.int .u8 8,.string ⟨#[108]⟩,.string ⟨#[100]⟩,.string ⟨#[]⟩,.int .i64 0,.string ⟨#[]⟩,.slice none 0 0,.slice none 0 0,.int .u8 9,.string ⟨#[]⟩,.string ⟨#[120]⟩,.string ⟨#[110,117,108,108]⟩,.int .i64 0,.string ⟨#[]⟩,.slice none 0 0,.slice none 0 0,.int .u8 10,.string ⟨#[114]⟩,.string ⟨#[]⟩,.string ⟨#[]⟩,.int .i64 0,.string ⟨#[103]⟩,.slice (some ⟨w.heap.size+1+1,0,none⟩) 2 2,.slice none 0 0,.int .u8 10,.string ⟨#[]⟩,.string ⟨#[]⟩,.string ⟨#[]⟩,.int .i64 0,.string ⟨#[103]⟩,.slice none 0 0,.slice none 0 0,.int .u8 11,.string ⟨#[105]⟩,.string ⟨#[102]⟩,.string ⟨#[]⟩,.int .i64 0,.string ⟨#[]⟩,.slice (some ⟨w.heap.size+1+1+1,0,none⟩) 1 1,.slice none 0 0,.int .u8 11,.string ⟨#[]⟩,.string ⟨#[102]⟩,.string ⟨#[]⟩,.int .i64 0,.string ⟨#[]⟩,.slice none 0 0,.slice none 0 0,.int .u8 12,.string ⟨#[]⟩,.string ⟨#[]⟩,.string ⟨#[]⟩,.int .i64 0,.string ⟨#[]⟩,.slice none 0 0,.slice (some ⟨w.heap.size+1+1+1+1,0,none⟩) 2 2,.int .u8 13,.string ⟨#[]⟩,.string ⟨#[]⟩,.string ⟨#[]⟩,.int .i64 0,.string ⟨#[]⟩,.slice none 0 0,.slice (some ⟨w.heap.size+1+1+1+1+1,0,none⟩) 1 1,.int .u8 14,.string ⟨#[]⟩,.string ⟨#[120]⟩,.string ⟨#[]⟩,.int .i64 0,.string ⟨#[]⟩,.slice none 0 0,.slice none 0 0,.int .u8 14,.string ⟨#[]⟩,.string ⟨#[]⟩,.string ⟨#[]⟩,.int .i64 0,.string ⟨#[]⟩,.slice none 0 0,.slice none 0 0] 46)).alloc (.cells #[.string ⟨#[97]⟩,.slice (some ⟨w.heap.size+1+1+1+1+1+1,0,none⟩) 17 17,.string ⟨#[98]⟩,.slice none 0 0] 43)).alloc (.cells #[.string ⟨#[112]⟩] 9)).alloc (.cells #[.string ⟨#[109,97,105,110]⟩,.slice none 0 0,.slice (some ⟨w.heap.size+1+1+1+1+1+1+1,0,none⟩) 2 2,.string ⟨#[103]⟩,.slice (some ⟨w.heap.size+1+1+1+1+1+1+1+1,0,none⟩) 1 1,.slice none 0 0] 40)).alloc (.cells #[.slice (some ⟨w.heap.size+1+1+1+1+1+1+1+1+1,0,none⟩) 2 2] 24))∧Below w.heap.size w W1∧RdE 3 RdFunC W1 (.slice (some ⟨w.heap.size+1+1+1+1+1+1+1+1+1,0,none⟩) 2 2) kMain:=by
 refine⟨_,rfl,((((((((((((Below.refl _ _).alloc (Nat.le_refl _) _).alloc (by simp) _).alloc (by simp;omega) _).alloc (by simp;omega) _).alloc (by simp;omega) _).alloc (by simp;omega) _).alloc (by simp;omega) _).alloc (by simp;omega) _).alloc (by simp;omega) _).alloc (by simp;omega) _).alloc (by simp;omega) _),?_⟩
 exact kMain_read (s:=w.heap.size) (at_oldN (at_oldN (at_oldN (at_oldN (at_oldN (at_oldN (at_oldN (at_oldN (at_oldN (at_oldN (at_newN rfl))))))))))) (at_oldN (at_oldN (at_oldN (at_oldN (at_oldN (at_oldN (at_oldN (at_oldN (at_oldN (at_newN (by simp))))))))))) (at_oldN (at_oldN (at_oldN (at_oldN (at_oldN (at_oldN (at_oldN (at_oldN (at_newN (by simp)))))))))) (at_oldN (at_oldN (at_oldN (at_oldN (at_oldN (at_oldN (at_oldN (at_newN (by simp))))))))) (at_oldN (at_oldN (at_oldN (at_oldN (at_oldN (at_oldN (at_newN (by simp)))))))) (at_oldN (at_oldN (at_oldN (at_oldN (at_oldN (at_newN (by simp))))))) (at_oldN (at_oldN (at_oldN (at_oldN (at_newN (by simp)))))) (at_oldN (at_oldN (at_oldN (at_newN (by simp))))) (at_oldN (at_oldN (at_newN (by simp)))) (at_oldN (at_newN (by simp)))
theorem fun_read {W:World}{b4:Nat}{d:Fun}{vp vb:Value}(hp:RdC W vp d.params)(hb:RdE 2 RdBlkC W vb d.blocks)(h:W.heap[b4]?=some (.cells #[.string d.name,vp,vb] 40 (0,0))):RdE 3 RdFunC W (.slice (some ⟨b4,0,none⟩) 1 1) [d]:=by
 refine rde6_block h rfl (fun i x hi=>?_)
 obtain⟨rfl,rfl⟩:=one_at6 hi
 exact⟨_,⟨_,_,rfl,hp,hb⟩,rfl,fun j u hj=>at6_row (n:=3) rfl hj⟩
set_option maxRecDepth 20000 in
set_option maxHeartbeats 16000000 in
theorem known_no (w2:World):∃W1,W1=((((((w2.alloc (.cells #[.string ⟨#[49]⟩,.slice none 0 0,.slice none 0 0] 40)).alloc (.cells #[.string ⟨#[110,117,108,108]⟩,.slice none 0 0,.slice none 0 0] 40)).alloc (.cells #[.string ⟨#[]⟩] 9)).alloc (.cells #[.string ⟨#[102]⟩,.slice (some ⟨w2.heap.size+1+1,0,none⟩) 1 1,.slice none 0 0] 40)).alloc (.cells #[.string ⟨#[]⟩,.slice none 0 0] 43)).alloc (.cells #[.string ⟨#[102]⟩,.slice none 0 0,.slice (some ⟨w2.heap.size+1+1+1+1,0,none⟩) 1 1] 40))∧Below w2.heap.size w2 W1∧RdE 3 RdFunC W1 (.slice (some ⟨w2.heap.size,0,none⟩) 1 1) [⟨⟨#[49]⟩,[],[]⟩]∧RdE 3 RdFunC W1 (.slice (some ⟨w2.heap.size+1,0,none⟩) 1 1) [⟨⟨#[110,117,108,108]⟩,[],[]⟩]∧RdE 3 RdFunC W1 (.slice (some ⟨w2.heap.size+1+1+1,0,none⟩) 1 1) [⟨⟨#[102]⟩,[⟨#[]⟩],[]⟩]∧RdE 3 RdFunC W1 (.slice (some ⟨w2.heap.size+1+1+1+1+1,0,none⟩) 1 1) [⟨⟨#[102]⟩,[],[⟨⟨#[]⟩,[]⟩]⟩]:=by
 refine⟨_,rfl,(((((((Below.refl _ _).alloc (Nat.le_refl _) _).alloc (by simp) _).alloc (by simp;omega) _).alloc (by simp;omega) _).alloc (by simp;omega) _).alloc (by simp;omega) _),?_,?_,?_,?_⟩
 ·exact fun_read (d:=⟨⟨#[49]⟩,[],[]⟩) (RdC.nil _) (RdE.nil _) (at_oldN (at_oldN (at_oldN (at_oldN (at_oldN (at_newN rfl))))))
 ·exact fun_read (d:=⟨⟨#[110,117,108,108]⟩,[],[]⟩) (RdC.nil _) (RdE.nil _) (at_oldN (at_oldN (at_oldN (at_oldN (at_newN (by simp))))))
 ·exact fun_read (d:=⟨⟨#[102]⟩,[⟨#[]⟩],[]⟩) (rdc_block (ss:=[⟨#[]⟩]) (at_oldN (at_oldN (at_oldN (at_newN (by simp)))))) (RdE.nil _) (at_oldN (at_oldN (at_newN (by simp))))
 ·refine fun_read (d:=⟨⟨#[102]⟩,[],[⟨⟨#[]⟩,[]⟩]⟩) (RdC.nil _) ?_ (at_newN (by simp))
  refine rde6_block (at_oldN (at_newN (by simp))) rfl (fun i x hi=>?_)
  obtain⟨rfl,rfl⟩:=one_at6 hi
  exact⟨_,⟨_,rfl,RdE.nil _⟩,rfl,fun j u hj=>at6_row (k:=0) (n:=2) rfl hj⟩
end
section
open Go.RowKit Go.Maps Go.Shelf Go.WideMaps
attribute [local go_sem] Oper.semAt_some
set_option maxRecDepth 100000 in
set_option maxHeartbeats 16000000 in
theorem showKnown_any (w:World):Calls Tryz.prog 6 #[] w fun e w'=>e=.returned (.bool true)∧Below w.heap.size w w':=by
 obtain⟨W1,hW1,hB1,hR1⟩:=known_main w
 have hp:=Lib.hid (print_any (sm_ok kMain_sm).1 (sm_ok kMain_sm).2.1 (sm_ok kMain_sm).2.2 hR1)
 rw [kMain_E,kMain_S] at hp
 unfold kText at hp
 replace hW1:=Lib.hid hW1
 replace hB1:=Lib.hid hB1
 clear hR1
 go_enter Tryz.func6,Tryz.ntmps6
 go_wp2_with fail
 rw [←hW1.out]
 clear hW1
 refine hp.out.mono ?_
 rintro e w2 ⟨rfl,hb2⟩
 have hB2:=Lib.hid (hB1.out.trans (hb2.mono hB1.out.size))
 clear hp hb2 hB1
 dsimp only
 go_upto_region 7 with fail
 obtain⟨W3,hW3,hB3,q0,q1,q2,q3⟩:=known_no w2
 replace hW3:=Lib.hid hW3
 replace q0:=Lib.hid q0
 replace q1:=Lib.hid q1
 replace q2:=Lib.hid q2
 replace q3:=Lib.hid q3
 replace hB3:=Lib.hid hB3
 go_wp2_with fail
 rw [←hW3.out]
 clear hW3
 refine (one_any (w:=W3) (d:=⟨0,⟨#[]⟩,⟨#[]⟩,⟨#[]⟩,0,⟨#[]⟩,[],[]⟩) (va:=.slice none 0 0) (vl:=.slice none 0 0) (RdC.nil _) (RdC.nil _)).mono ?_
 rintro e v0 ⟨⟨u,rfl,hu⟩,hb⟩
 obtain⟨a0,n0,e0⟩:=hu.form
 replace e0:u=.slice a0 1 n0:=e0
 subst e0
 have r0:=Lib.hid hu
 have b0:=Lib.hid (hb:Below W3.heap.size W3 v0)
 clear hu hb
 dsimp only
 go_wp2_with fail
 refine (one_any (w:=v0) (d:=⟨14,⟨#[]⟩,⟨#[]⟩,⟨#[120]⟩,0,⟨#[]⟩,[],[]⟩) (va:=.slice none 0 0) (vl:=.slice none 0 0) (RdC.nil _) (RdC.nil _)).mono ?_
 rintro e v1 ⟨⟨u,rfl,hu⟩,hb⟩
 obtain⟨a1,n1,e0⟩:=hu.form
 replace e0:u=.slice a1 1 n1:=e0
 subst e0
 have r1:=Lib.hid hu
 have b1:=Lib.hid (hb:Below v0.heap.size v0 v1)
 clear hu hb
 dsimp only
 go_wp2_with fail
 refine (one_any (w:=v1) (d:=⟨5,⟨#[120]⟩,⟨#[]⟩,⟨#[]⟩,0,⟨#[]⟩,[],[]⟩) (va:=.slice none 0 0) (vl:=.slice none 0 0) (RdC.nil _) (RdC.nil _)).mono ?_
 rintro e v2 ⟨⟨u,rfl,hu⟩,hb⟩
 obtain⟨a2,n2,e0⟩:=hu.form
 replace e0:u=.slice a2 1 n2:=e0
 subst e0
 have r2:=Lib.hid hu
 have b2:=Lib.hid (hb:Below v1.heap.size v1 v2)
 clear hu hb
 dsimp only
 go_wp2_with fail
 refine (one_any (w:=v2) (d:=⟨1,⟨#[120]⟩,⟨#[]⟩,⟨#[]⟩,0,⟨#[]⟩,[],[]⟩) (va:=.slice none 0 0) (vl:=.slice none 0 0) (RdC.nil _) (RdC.nil _)).mono ?_
 rintro e v3 ⟨⟨u,rfl,hu⟩,hb⟩
 obtain⟨a3,n3,e0⟩:=hu.form
 replace e0:u=.slice a3 1 n3:=e0
 subst e0
 have r3:=Lib.hid hu
 have b3:=Lib.hid (hb:Below v2.heap.size v2 v3)
 clear hu hb
 dsimp only
 go_wp2_with fail
 refine (one_any (w:=v3) (d:=⟨5,⟨#[110,117,108,108]⟩,⟨#[120]⟩,⟨#[]⟩,0,⟨#[]⟩,[],[]⟩) (va:=.slice none 0 0) (vl:=.slice none 0 0) (RdC.nil _) (RdC.nil _)).mono ?_
 rintro e v4 ⟨⟨u,rfl,hu⟩,hb⟩
 obtain⟨a4,n4,e0⟩:=hu.form
 replace e0:u=.slice a4 1 n4:=e0
 subst e0
 have r4:=Lib.hid hu
 have b4:=Lib.hid (hb:Below v3.heap.size v3 v4)
 clear hu hb
 dsimp only
 go_wp2_with fail
 refine (one_any (w:=(v4.alloc (.cells #[.string ⟨#[121]⟩] 9))) (d:=⟨6,⟨#[120]⟩,⟨#[]⟩,⟨#[]⟩,0,⟨#[]⟩,[⟨#[121]⟩],[]⟩) (va:=.slice (some ⟨v4.heap.size,0,none⟩) 1 1) (vl:=.slice none 0 0) (rdc_block (ss:=[⟨#[121]⟩]) (heap_alloc_new _ _)) (RdC.nil _)).mono ?_
 rintro e v5 ⟨⟨u,rfl,hu⟩,hb⟩
 obtain⟨a5,n5,e0⟩:=hu.form
 replace e0:u=.slice a5 1 n5:=e0
 subst e0
 have r5:=Lib.hid hu
 have b5:=Lib.hid (show Below v4.heap.size v4 v5 from ((Below.refl _ _).alloc (Nat.le_refl _) _).trans (hb.mono (by simp)))
 clear hu hb
 dsimp only
 have hX:(v5.alloc (.cells #[.slice (some ⟨w2.heap.size,0,none⟩) 1 1,.slice (some ⟨w2.heap.size+1,0,none⟩) 1 1,.slice (some ⟨w2.heap.size+1+1+1,0,none⟩) 1 1,.slice (some ⟨w2.heap.size+1+1+1+1+1,0,none⟩) 1 1,.slice a0 1 n0,.slice a1 1 n1,.slice a2 1 n2,.slice a3 1 n3,.slice a4 1 n4,.slice a5 1 n5] 24)).heap[v5.heap.size]?=some (.cells #[.slice (some ⟨w2.heap.size,0,none⟩) 1 1,.slice (some ⟨w2.heap.size+1,0,none⟩) 1 1,.slice (some ⟨w2.heap.size+1+1+1,0,none⟩) 1 1,.slice (some ⟨w2.heap.size+1+1+1+1+1,0,none⟩) 1 1,.slice a0 1 n0,.slice a1 1 n1,.slice a2 1 n2,.slice a3 1 n3,.slice a4 1 n4,.slice a5 1 n5] 24 (0,0)):=heap_alloc_new _ _
 have hbN:Below v5.heap.size v5 (v5.alloc (.cells #[.slice (some ⟨w2.heap.size,0,none⟩) 1 1,.slice (some ⟨w2.heap.size+1,0,none⟩) 1 1,.slice (some ⟨w2.heap.size+1+1+1,0,none⟩) 1 1,.slice (some ⟨w2.heap.size+1+1+1+1+1,0,none⟩) 1 1,.slice a0 1 n0,.slice a1 1 n1,.slice a2 1 n2,.slice a3 1 n3,.slice a4 1 n4,.slice a5 1 n5] 24)):=(Below.refl _ _).alloc (Nat.le_refl _) _
 go_upto_block 0 with fail
 obtain⟨N,hN⟩:∃N,N=v5.heap.size:=⟨_,rfl⟩
 rw [←hN] at hX ⊢
 generalize (v5.alloc (.cells #[.slice (some ⟨w2.heap.size,0,none⟩) 1 1,.slice (some ⟨w2.heap.size+1,0,none⟩) 1 1,.slice (some ⟨w2.heap.size+1+1+1,0,none⟩) 1 1,.slice (some ⟨w2.heap.size+1+1+1+1+1,0,none⟩) 1 1,.slice a0 1 n0,.slice a1 1 n1,.slice a2 1 n2,.slice a3 1 n3,.slice a4 1 n4,.slice a5 1 n5] 24))=WN at hX hbN ⊢
 have c5:=Lib.hid hbN
 have c4:=Lib.hid (b5.out.trans (c5.out.mono b5.out.size))
 have c3:=Lib.hid (b4.out.trans (c4.out.mono b4.out.size))
 have c2:=Lib.hid (b3.out.trans (c3.out.mono b3.out.size))
 have c1:=Lib.hid (b2.out.trans (c2.out.mono b2.out.size))
 have c0:=Lib.hid (b1.out.trans (c1.out.mono b1.out.size))
 have cW:=Lib.hid (b0.out.trans (c0.out.mono b0.out.size))
 have hlt:N<WN.heap.size:=(Array.getElem?_eq_some_iff.1 hX).1
 have hrow:=Lib.hid (fun (W:World) (hb:Below WN.heap.size WN W) (k:Nat) (hk:k<10)=>(by
  have hc:∀i,W.cell? ⟨N,i,none⟩=_:=fun i=>blk_cell ((hb.block _ hlt).trans hX) i
  rcases (show k=0∨k=1∨k=2∨k=3∨k=4∨k=5∨k=6∨k=7∨k=8∨k=9 from by omega) with rfl | rfl | rfl | rfl | rfl | rfl | rfl | rfl | rfl | rfl
  ·exact⟨_,_,_,by rw [hc];rfl,List.mem_of_getElem? (i:=0) rfl,rdfc_belowK (rdfc_belowK q0.out cW.out) hb⟩
  ·exact⟨_,_,_,by rw [hc];rfl,List.mem_of_getElem? (i:=1) rfl,rdfc_belowK (rdfc_belowK q1.out cW.out) hb⟩
  ·exact⟨_,_,_,by rw [hc];rfl,List.mem_of_getElem? (i:=2) rfl,rdfc_belowK (rdfc_belowK q2.out cW.out) hb⟩
  ·exact⟨_,_,_,by rw [hc];rfl,List.mem_of_getElem? (i:=3) rfl,rdfc_belowK (rdfc_belowK q3.out cW.out) hb⟩
  ·exact⟨_,_,_,by rw [hc];rfl,List.mem_of_getElem? (i:=4) rfl,rdfc_belowK (rdfc_belowK r0.out c0.out) hb⟩
  ·exact⟨_,_,_,by rw [hc];rfl,List.mem_of_getElem? (i:=5) rfl,rdfc_belowK (rdfc_belowK r1.out c1.out) hb⟩
  ·exact⟨_,_,_,by rw [hc];rfl,List.mem_of_getElem? (i:=6) rfl,rdfc_belowK (rdfc_belowK r2.out c2.out) hb⟩
  ·exact⟨_,_,_,by rw [hc];rfl,List.mem_of_getElem? (i:=7) rfl,rdfc_belowK (rdfc_belowK r3.out c3.out) hb⟩
  ·exact⟨_,_,_,by rw [hc];rfl,List.mem_of_getElem? (i:=8) rfl,rdfc_belowK (rdfc_belowK r4.out c4.out) hb⟩
  ·exact⟨_,_,_,by rw [hc];rfl,List.mem_of_getElem? (i:=9) rfl,rdfc_belowK (rdfc_belowK r5.out c5.out) hb⟩
  :∃a c P,W.cell? ⟨N,k,none⟩=some (.slice a 1 c)∧P∈kNo∧RdE 3 RdFunC W (.slice a 1 c) P))
 have hB4:=Lib.hid (hB2.out.trans ((hB3.out.trans (cW.out.mono hB3.out.size)).mono hB2.out.size))
 clear hX hbN hlt q0 q1 q2 q3 r0 r1 r2 r3 r4 r5 b0 b1 b2 b3 b4 b5 c0 c1 c2 c3 c4 c5 cW hN hB3
 go_wp2_with fail
 go_loopw [7] (fun i wr=>∃k:Nat,k≤10∧i=.int .i64 k∧Hid (Below WN.heap.size WN wr)) (fun i _=>10-(intOf i).toNat)
 case atStart=>exact⟨0,Nat.zero_le _,rfl,Lib.hid (Below.refl _ _)⟩
 case round=>
  obtain⟨k,hk,rfl,hb⟩:=hrel
  by_cases hlt:k<10
  ·have j1:decide ((k:Int)<10)=true:=by simp;omega
   have j2:(k:Int)<10:=by omega
   obtain⟨a,c,P,hc,hP,hR⟩:=hrow.out wr hb.out k hlt
   have hl:=cell_size hc
   have hnp:=Lib.hid (no_print hP hR)
   clear hP hR
   go_wp2_with fail
   refine hnp.out.mono ?_
   rintro e w9 ⟨rfl,hb9⟩
   have hB9:=Lib.hid (hb.out.trans (hb9.mono hb.out.size))
   clear hb9 hnp hc hl
   dsimp only
   go_wp2_with fail
   refine⟨?_,?_⟩
   ·repeat apply Exists.intro
    refine⟨?_,rfl⟩
    exact⟨k+1,by omega,by go_num,hB9⟩
   ·simp [intOf]
    omega
  ·obtain rfl:k=10:=by omega
   have j1:decide (((10:Nat):Int)<10)=false:=by decide
   have hB5:=Lib.hid (hB4.out.trans (hb.out.mono hB4.out.size))
   clear hrow hb
   go_upto_region 14 with fail
   have hpn:=print_any (sm_ok (P:=[]) rfl).1 (sm_ok (P:=[]) rfl).2.1 (sm_ok (P:=[]) rfl).2.2 (RdE.nil wr)
   rw [kNil_E,kNil_S] at hpn
   replace hpn:=Lib.hid hpn
   go_wp2_with fail
   refine hpn.out.mono ?_
   rintro e wa ⟨rfl,hba⟩
   have hBa:=Lib.hid (hB5.out.trans (hba.mono hB5.out.size))
   clear hba hpn hB5
   dsimp only
   go_upto_region 15 with fail
   obtain⟨i0,hi0,hz0,hz1,hz2⟩:=info_parts infoInsK
   obtain⟨wm,hmk0,hown0,hgr0⟩:=run_make_full (P:=Tryz.prog) wa wa.heap.size 41 46 i0 _ 8 Tryz.underlying41 hi0 hz0 hz1 .i64 .i64 131072 (by rw [hz2];decide) (by unfold maxLen;decide) (Nat.le_refl _)
   have hmk:(Instr.makeSlice 41 (.int .i64 131072) (.int .i64 131072)).run Tryz.prog wa=.ok (.slice (some ⟨wa.heap.size,0,none⟩) 131072 131072) wm:=hmk0
   have hTm:Touch wa wm (fun _=>False):=Touch.of_grown hgr0 (S:=fun _=>False) (fun k e=>by cases e)
   obtain⟨cs,hcs,hv0⟩:=made_vals hown0
   obtain⟨B1,hB1e⟩:∃B,B=wa.heap.size:=⟨_,rfl⟩
   rw [←hB1e] at hcs hmk
   have hB1l:B1<wm.heap.size:=(Array.getElem?_eq_some_iff.1 hcs).1
   obtain⟨W15,hW15⟩:∃W15,(wm.alloc (.cells #[.string ⟨#[97]⟩,.slice (some ⟨B1,0,none⟩) 131072 131072] 43)).alloc (.cells #[.string ⟨#[102]⟩,.slice none 0 0,.slice (some ⟨wm.heap.size,0,none⟩) 1 1] 40)=W15:=⟨_,rfl⟩
   have g1:W15.heap[B1]?=some (.cells cs 46 (0,0)):=by rw [←hW15];exact at_oldN (at_oldN hcs)
   have g2:W15.heap[wm.heap.size]?=some (.cells #[.string ⟨#[97]⟩,.slice (some ⟨B1,0,none⟩) 131072 131072] 43 (0,0)):=by rw [←hW15];exact at_oldN (at_newN rfl)
   have g3:W15.heap[wm.heap.size+1]?=some (.cells #[.string ⟨#[102]⟩,.slice none 0 0,.slice (some ⟨wm.heap.size,0,none⟩) 1 1] 40 (0,0)):=by rw [←hW15];exact at_newN (by simp)
   have hT15:Touch wa W15 (fun _=>False):=by rw [←hW15];exact (hTm.alloc _).alloc _
   replace hW15:=Lib.hid hW15
   replace hB1e:=Lib.hid hB1e
   clear hown0 hgr0 hmk0 hTm hcs
   replace g1:=Lib.hid g1
   replace g2:=Lib.hid g2
   replace g3:=Lib.hid g3
   replace hv0:=Lib.hid hv0
   replace hT15:=Lib.hid hT15
   go_upto_block 2 with fail
   rw [hW15.out]
   obtain⟨B2,hB2e⟩:∃B,B=wm.heap.size:=⟨_,rfl⟩
   obtain⟨B3,hB3e⟩:∃B,B=wm.heap.size+1:=⟨_,rfl⟩
   have g1:=g1.out
   have g2:=g2.out
   have g3:=g3.out
   rw [←hB3e] at g3 ⊢
   rw [←hB2e] at g2 g3
   have hne2:B2≠B1:=by omega
   have hne3:B3≠B1:=by omega
   replace hB2e:=Lib.hid hB2e
   replace hB3e:=Lib.hid hB3e
   clear hmk hW15
   refine long2 (by kernel_rfl) (w:=W15) (B1:=B1) (B2:=B2) (B3:=B3) (cc:=131072) g1 hv0.out (by rw [blk_cell g2];rfl) (by rw [blk_cell g3];rfl) hne2 hne3 (fun {_ a a1 _} h e=>by cases a;cases a1;cases e;exact h) (Lib.hid ?_)
   intros
   rename_i hx
   rename World=>wb
   obtain⟨hTb,cs1,hb1,hv1⟩:=hx
   have k2:wb.heap[B2]?=some (.cells #[.string ⟨#[97]⟩,.slice (some ⟨B1,0,none⟩) 131072 131072] 43 (0,0)):=(hTb.block B2 (Array.getElem?_eq_some_iff.1 g2).1 hne2).trans g2
   have k3:wb.heap[B3]?=some (.cells #[.string ⟨#[102]⟩,.slice none 0 0,.slice (some ⟨B2,0,none⟩) 1 1] 40 (0,0)):=(hTb.block B3 (Array.getElem?_eq_some_iff.1 g3).1 hne3).trans g3
   have hTab:Touch wa wb (fun _=>False):=hT15.out.then hTb (fun j hj e=>by have:=hB1e.out;omega)
   have x0:wb.cell? ⟨B3,0,none⟩=some (.string ⟨#[102]⟩):=by rw [blk_cell k3];rfl
   have x1:wb.cell? ⟨B3,1,none⟩=some (.slice none 0 0):=by rw [blk_cell k3];rfl
   have x2:wb.cell? ⟨B3,2,none⟩=some (.slice (some ⟨B2,0,none⟩) 1 1):=by rw [blk_cell k3];rfl
   have xl:B3<wb.heap.size:=cell_size x0
   have hrd:=long_read (c:=kRet ⟨#[]⟩) (B4:=wb.heap.size) (at_oldN (o:=.cells #[.string ⟨#[102]⟩,.slice none 0 0,.slice (some ⟨B2,0,none⟩) 1 1] 40) hb1) hv1 ⟨rfl,rfl⟩ (fun i j hi hj=>by
    rw [show (upV (fun _ j=>zIns[j]!) 0 (.int .u8 14) 131072 i j)=(if j=0 then .int .u8 14 else zIns[j]!) from by unfold upV;simp [hi]]
    rcases (show j=0∨j=1∨j=2∨j=3∨j=4∨j=5∨j=6∨j=7 from by omega) with rfl | rfl | rfl | rfl | rfl | rfl | rfl | rfl<;>rfl) (at_oldN k2) (heap_alloc_new _ _)
   have hp1:=print_any (sm_ok (kLong_sm kRet1.1)).1 (sm_ok (kLong_sm kRet1.1)).2.1 (sm_ok (kLong_sm kRet1.1)).2.2 hrd
   rw [kLong1_E] at hp1
   have hsz:=kLong1_S
   generalize showS (kLong (kRet ⟨#[]⟩))=T1 at hp1 hsz
   have hsz2:((T1.size:Int)==786448)=true:=by rw [hsz];rfl
   have hBb:=hBa.out.trans ((hTab.alloc (.cells #[.string ⟨#[102]⟩,.slice none 0 0,.slice (some ⟨B2,0,none⟩) 1 1] 40)).below hBa.out.size (fun j hj e=>e.elim))
   replace hp1:=Lib.hid hp1
   replace hBb:=Lib.hid hBb
   replace hb1:=Lib.hid hb1
   replace hv1:=Lib.hid hv1
   replace k2:=Lib.hid k2
   replace k3:=Lib.hid k3
   replace hTb:=Lib.hid hTb
   replace hTab:=Lib.hid hTab
   replace hsz:=Lib.hid hsz
   replace hsz2:=Lib.hid hsz2
   clear hrd g1 g2 g3 hv0 hT15
   go_wp2_with fail
   refine hp1.out.mono ?_
   rintro e wc ⟨rfl,hbc⟩
   clear hp1 x0 x1 x2 xl
   dsimp only
   have m1:wc.heap[B1]?=some (.cells cs1 46 (0,0)):=(hbc.block B1 (by have:=(Array.getElem?_eq_some_iff.1 hb1.out).1;simp;omega)).trans (at_oldN hb1.out)
   have m2:wc.heap[B2]?=_:=(hbc.block B2 (by have:=(Array.getElem?_eq_some_iff.1 k2.out).1;simp;omega)).trans (at_oldN k2.out)
   have m3:wc.heap[B3]?=_:=(hbc.block B3 (by have:=(Array.getElem?_eq_some_iff.1 k3.out).1;simp;omega)).trans (at_oldN k3.out)
   have hBc:=Lib.hid (hBb.out.trans (hbc.mono hBb.out.size))
   have hwab:wa.heap.size≤wc.heap.size:=by have h1:=hTab.out.size;have h2:=hbc.size;simp at h2;omega
   replace m1:=Lib.hid m1
   replace m2:=Lib.hid m2
   replace m3:=Lib.hid m3
   clear hbc hb1 k2 k3 hTb
   go_upto_block 4 with fail
   refine long4 (by kernel_rfl) (w:=wc) (B1:=B1) (B2:=B2) (B3:=B3) (cc:=131072) m1.out hv1.out (by rw [blk_cell m2.out];rfl) (by rw [blk_cell m3.out];rfl) hne2 hne3 (fun {_ a a1 _} h e=>by cases a;cases a1;cases e;exact h) (Lib.hid ?_)
   intros
   rename_i hx
   rename World=>wd
   obtain⟨hTd,cs2,hd1,hv2⟩:=hx
   have k2:wd.heap[B2]?=some (.cells #[.string ⟨#[97]⟩,.slice (some ⟨B1,0,none⟩) 131072 131072] 43 (0,0)):=(hTd.block B2 (Array.getElem?_eq_some_iff.1 m2.out).1 hne2).trans m2.out
   have k3:wd.heap[B3]?=some (.cells #[.string ⟨#[102]⟩,.slice none 0 0,.slice (some ⟨B2,0,none⟩) 1 1] 40 (0,0)):=(hTd.block B3 (Array.getElem?_eq_some_iff.1 m3.out).1 hne3).trans m3.out
   have x0:wd.cell? ⟨B3,0,none⟩=some (.string ⟨#[102]⟩):=by rw [blk_cell k3];rfl
   have x1:wd.cell? ⟨B3,1,none⟩=some (.slice none 0 0):=by rw [blk_cell k3];rfl
   have x2:wd.cell? ⟨B3,2,none⟩=some (.slice (some ⟨B2,0,none⟩) 1 1):=by rw [blk_cell k3];rfl
   have xl:B3<wd.heap.size:=cell_size x0
   have hrd:=long_read (c:=kRet ⟨#[120,120]⟩) (B4:=wd.heap.size) (at_oldN (o:=.cells #[.string ⟨#[102]⟩,.slice none 0 0,.slice (some ⟨B2,0,none⟩) 1 1] 40) hd1) hv2 ⟨rfl,rfl⟩ (fun i j hi hj=>by
    rw [show (upV (upV (fun _ j=>zIns[j]!) 0 (.int .u8 14) 131072) 2 (.string ⟨#[120,120]⟩) 131072 i j)=(if j=2 then .string ⟨#[120,120]⟩ else if j=0 then .int .u8 14 else zIns[j]!) from by unfold upV;simp [hi]]
    rcases (show j=0∨j=1∨j=2∨j=3∨j=4∨j=5∨j=6∨j=7 from by omega) with rfl | rfl | rfl | rfl | rfl | rfl | rfl | rfl<;>rfl) (at_oldN k2) (heap_alloc_new _ _)
   have hp2:=print_any (sm_ok (kLong_sm kRet2.1)).1 (sm_ok (kLong_sm kRet2.1)).2.1 (sm_ok (kLong_sm kRet2.1)).2.2 hrd
   rw [kLong2_E,kLong2_S] at hp2
   have hBd:=(hBc.out.trans (hTd.below hBc.out.size (fun j hj e=>by have h1:=hB1e.out;have h2:=hBa.out.size;omega))).alloc (by have h1:=hBc.out.size;have h2:=hTd.size;omega) (.cells #[.string ⟨#[102]⟩,.slice none 0 0,.slice (some ⟨B2,0,none⟩) 1 1] 40)
   replace hp2:=Lib.hid hp2
   replace hBd:=Lib.hid hBd
   clear hrd hTd hd1 hv2 k2 k3 m1 m2 m3 hv1
   go_wp2_with fail
   refine hp2.out.mono ?_
   rintro e wf ⟨rfl,hbf⟩
   clear hp2 x0 x1 x2 xl
   dsimp only
   have hBf:=Lib.hid (hBd.out.trans (hbf.mono hBd.out.size))
   clear hbf
   have hsz2:=hsz2.out
   go_wp2_with fail
   refine (tells_any wf).mono ?_
   rintro e wg ⟨rfl,hbg⟩
   have hfin:=Lib.hid (hBf.out.trans (hbg.mono hBf.out.size))
   clear hbg
   dsimp only
   go_wp2_with fail
   go_ret
   exact⟨rfl,hfin.out⟩
end
end Go.Proofs.YtknkiaedgeejiaaGreatDoor
