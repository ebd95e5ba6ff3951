/- RfP8, RdJ2, RdR9. -/
import Derived.Test.YtgcanabckogmmaaDoorZR38
import Derived.Test.YtgcanabckogmmaaDoorZR25
import Derived.Test.YtgcanabckogmmaaDoorZR21
import Derived.Test.YtgcanabckogmmaaDoorZR20
import Derived.Laws.StructEq
namespace Go.Proofs.YtgcanabckogmmaaDoor
set_option linter.unusedVariables false
set_option linter.unusedSimpArgs false
section
open Go.RowKit Go.Maps Go.Shelf
attribute [local go_sem] Oper.semAt_some fld0 fld1 fld2
set_option maxRecDepth 20000 in
set_option maxHeartbeats 4000000 in
theorem refparse_bad {w:World}{s:ByteArray}{l c er:Nat}(hne:er≠0)(hk:∀w',Calls Tryd.prog 21 #[.string s] w' fun e w''=>e=.returned (.tuple #[.slice none 0 0,.agg #[.int .i64 l,.int .i64 c],.int .i64 er])∧Below w'.heap.size w' w''):Calls Tryd.prog 10 #[.string s] w (ParsePost w (.error (l,c,er))):=by
 replace hk:=Lib.hid hk
 have g1:((er:Int) != 0)=true:=by simpa using hne
 go_enter Tryd.func10,Tryd.ntmps10
 go_wp2_with fail
 refine (hk.out _).mono ?_
 rintro e w2 ⟨rfl,hb2⟩
 dsimp only
 obtain⟨wA,hwA⟩:∃wA,wA=(w.alloc (.cells #[.slice none 0 0] 24)).alloc (.cells #[.int .i64 0,.int .i64 0] 26):=⟨_,rfl⟩
 rw [←hwA] at hb2
 have hzA:wA.heap.size=w.heap.size+2:=by rw [hwA];simp
 have hs2:=hb2.size
 obtain⟨e0,he0⟩:∃e,e=w.heap.size:=⟨_,rfl⟩
 obtain⟨e1,he1⟩:∃e,e=w.heap.size+1:=⟨_,rfl⟩
 obtain⟨b6,hb6⟩:∃e,e=w2.heap.size:=⟨_,rfl⟩
 have h0A:wA.heap[e0]?=some (.cells #[.slice none 0 0] 24 (0,0)):=by rw [hwA];exact at_oldP (at_newP he0)
 have h1A:wA.heap[e1]?=some (.cells #[.int .i64 0,.int .i64 0] 26 (0,0)):=by rw [hwA];exact at_newP (by simp [he1])
 have b0:=((Touch.of_below hb2 (fun _=>False)).block e0 (by omega) (fun h=>h)).trans h0A
 have b1:=((Touch.of_below hb2 (fun _=>False)).block e1 (by omega) (fun h=>h)).trans h1A
 have hbw2:Below w.heap.size w w2:=(by
  have h1:Below w.heap.size w wA:=by rw [hwA];exact ((Below.refl _ _).alloc (Nat.le_refl _) _).alloc (by simp) _
  exact h1.trans (hb2.mono (by omega)))
 obtain⟨w3,hw3⟩:∃w3,w3=w2.alloc (.cells #[.int .i64 l,.int .i64 c] 26):=⟨_,rfl⟩
 have d0:w3.heap[e0]?=some (.cells #[.slice none 0 0] 24 (0,0)):=by rw [hw3];exact at_oldP b0
 have d1:w3.heap[e1]?=some (.cells #[.int .i64 0,.int .i64 0] 26 (0,0)):=by rw [hw3];exact at_oldP b1
 have d6:w3.heap[b6]?=some (.cells #[.int .i64 l,.int .i64 c] 26 (0,0)):=by rw [hw3];exact at_newP hb6
 have hbw:Below w.heap.size w w3:=by rw [hw3];exact hbw2.alloc hbw2.size _
 have n01:e0≠e1:=by omega
 have n06:e0≠b6:=by omega
 have n16:e1≠b6:=by omega
 have n10:e1≠e0:=by omega
 have n60:b6≠e0:=by omega
 have n61:b6≠e1:=by omega
 have c0:w3.cell? ⟨e0,0,none⟩=some (.slice none 0 0):=by rw [blk_cell d0];rfl
 have c1:w3.cell? ⟨e1,0,none⟩=some (.int .i64 0):=by rw [blk_cell d1];rfl
 have c2:w3.cell? ⟨e1,1,none⟩=some (.int .i64 0):=by rw [blk_cell d1];rfl
 have hS:w3.cell? ⟨b6,0,none⟩=some (.int .i64 l)∧w3.cell? ⟨b6,1,none⟩=some (.int .i64 c):=⟨by rw [blk_cell d6];rfl,by rw [blk_cell d6];rfl⟩
 have f0:=frozB d0 0
 have f1:=frozB d1 0
 have f2:=frozB d1 1
 have h00:w.heap.size≤e0:=by omega
 have h11:w.heap.size≤e1:=by omega
 replace hbw:=Lib.hid hbw
 replace d0:=Lib.hid d0
 replace d1:=Lib.hid d1
 replace d6:=Lib.hid d6
 replace h00:=Lib.hid h00
 replace h11:=Lib.hid h11
 go_upto_region 3 with fail
 rw [←hw3,←he1,←he0,←hb6]
 clear b0 b1 h0A h1A hbw2 hb2 hwA hzA hs2 he0 he1 hb6 hw3 hk
 go_region_held3 (fun w'=>w'.cell? ⟨b6,0,none⟩=some (.int .i64 l)∧w'.cell? ⟨b6,1,none⟩=some (.int .i64 c)) (simp [go_sem, *]) (go_simp)
 all_goals
  go_wp2_with fail
  refine bodyPost_ret (v:=.tuple #[.agg #[.slice none 0 0],.agg #[.int .i64 l,.int .i64 c],.int .i64 er]) (by simp [results,Tryd.results10,go_sem, *]) rfl ⟨?_,rfl⟩
  exact (((hbw.out.setCell (p:=⟨e0,0,none⟩) h00.out _).setCell (p:=⟨e1,0,none⟩) h11.out _).setCell (p:=⟨e1,1,none⟩) h11.out _).drew
end
section
open Go.RowKit Go.Maps Go.Shelf
attribute [local go_sem] Oper.semAt_some fld0 fld1 fld2
theorem eq_spotR (d:Nat)(w:World)(a b a' b':Int):(Op.equalIn (d+2) 26 (.agg #[.int .i64 a,.int .i64 b]) (.agg #[.int .i64 a',.int .i64 b'])).run Tryd.prog w=.ok (a==a'&&b==b') w:=by
 have u3:=Tryd.underlying3
 have a3:=Tryd.isAgg3
 have z3:=Tryd.sizeOf3
 have hS:Tryd.prog.underlying 26=some (.struct (Tryd.prog.fieldsOf 26)):=by kernel_rfl
 have hp:Tryd.prog.stoodInHeld 26=false:=by kernel_rfl
 rw [run_equalIn_agg w (d+1) 26 _ _ hS hp]
 simp only [Program.fieldsOf,Tryd.underlying26]
 go_simp
 by_cases h1:a=a'<;>by_cases h2:b=b'<;>simp [h1,h2]
end
section
open Go.RowKit Go.Maps Go.Shelf
attribute [local go_sem] Oper.semAt_some fld0 fld1 fld2
theorem refparse_any {w:World}{s:ByteArray}(hs:s.size≤1048576):Calls Tryd.prog 10 #[.string s] w (ParsePost w (parseL s.data.toList)):=by
 cases hl:lex s.data.toList 1 1 with
 | error e=>
  obtain⟨l,c,er⟩:=e
  have hp:parseL s.data.toList=.error (l,c,er):=by unfold parseL;rw [hl]
  rw [hp]
  refine refparse_bad (lexN_err _ _ _ _ _ _ _ (Nat.le_refl _) hl) fun w'=>?_
  have:=ref_any (w:=w') hs
  rw [hl] at this
  exact this
 | ok T=>
  rw [(parse_ref hl).1]
  exact refparse_good hs hl
theorem refparse_long {w:World}{s:ByteArray}(hs:1048576<s.size)(h63:s.size≤maxLen):Calls Tryd.prog 10 #[.string s] w (ParsePost w (.error (0,0,2))):=
 refparse_bad (by decide) fun w'=>ref_long hs h63
def outF (R:Except Flt (List Fun)):Nat × Nat × Nat × List Fun:=match R with
 | .error (l,c,er)=>(l,c,er,[])
 | .ok P=>(0,0,0,P)
theorem post_same {w w':World}{R:Except Flt (List Fun)}{e:Ending}{l c er:Nat}{P:List Fun}(h:ParsePost w R e w')(hR:outF R=(l,c,er,P)):∃(va:Option Addr) (vc:Nat),e=.returned (.tuple #[.agg #[.slice va P.length vc],.agg #[.int .i64 l,.int .i64 c],.int .i64 er])∧Below w.heap.size w w'∧∀w'',Below w'.heap.size w' w''→RdE 3 RdFun w'' (.slice va P.length vc) P:=by
 obtain⟨hb,h⟩:=h
 cases R with
 | error f=>
  obtain⟨l',c',er'⟩:=f
  cases hR
  exact⟨none,0,h,hb,fun w'' _=>.inl ⟨rfl,.inl rfl⟩⟩
 | ok Q=>
  cases hR
  obtain⟨v,rfl,hr⟩:=h
  obtain⟨va,vc,rfl⟩:=(hr w' (Touch.refl _ _)).1.form
  exact⟨va,vc,rfl,hb,fun w'' t=>(hr w'' (Touch.of_below t _)).plain⟩
set_option maxRecDepth 20000 in
set_option maxHeartbeats 4000000 in
theorem parses_both {w:World}{s:ByteArray}{R:Except Flt (List Fun)}{l c er:Nat}{P:List Fun}(hA:∀w,Calls Tryd.prog 9 #[.string s] w (ParsePost w R))(hB:∀w,Calls Tryd.prog 10 #[.string s] w (ParsePost w R))(hR:outF R=(l,c,er,P))(hF:FitP P)(hg:decide ((s.size:Int) > 1500)=false∨(decide ((s.size:Int) > 1500)=true∧decide ((s.size:Int)≤1048576)=false)):Calls Tryd.prog 3 #[.string s] w fun e w'=>e=.returned (.bool true)∧Below w.heap.size w w':=by
 have hq:=fun w=>eq_spotR 9998 w (l:Int) (c:Int) (l:Int) (c:Int)
 simp only [beq_self_eq_true,Bool.and_self] at hq
 have he:((er:Int)==(er:Int))=true:=beq_self_eq_true _
 replace hA:=Lib.hid hA
 replace hB:=Lib.hid hB
 replace hR:=Lib.hid hR
 replace hF:=Lib.hid hF
 rcases hg with g1 | ⟨g1,g2⟩
 all_goals
  go_enter Tryd.func3,Tryd.ntmps3
  go_wp2_with fail
  refine (hA.out _).mono ?_
  intro e w1 h1
  obtain⟨va,vc,rfl,hb1,hr1⟩:=post_same h1 hR.out
  replace hb1:=Lib.hid hb1
  replace hr1:=Lib.hid hr1
  clear h1
  dsimp only
  go_wp2_with fail
  refine (hB.out _).mono ?_
  intro e w2 h2
  obtain⟨vb,vd,rfl,hb2,hr2⟩:=post_same h2 hR.out
  replace hb2:=Lib.hid hb2
  replace hr2:=Lib.hid hr2
  clear h2
  dsimp only
  obtain⟨W1,hW1⟩:∃W1,W1=(w1.alloc (.cells #[.slice va P.length vc] 24)).alloc (.cells #[.int .i64 l,.int .i64 c] 26):=⟨_,rfl⟩
  rw [←hW1] at hb2
  obtain⟨W4,hW4⟩:∃W4,W4=(w2.alloc (.cells #[.slice vb P.length vd] 24)).alloc (.cells #[.int .i64 l,.int .i64 c] 26):=⟨_,rfl⟩
  have hw1:Below w1.heap.size w1 W1:=by rw [hW1];exact ((Below.refl _ _).alloc (Nat.le_refl _) _).alloc (by simp) _
  have hw2:Below w2.heap.size w2 W4:=by rw [hW4];exact ((Below.refl _ _).alloc (Nat.le_refl _) _).alloc (by simp) _
  have hz1:W1.heap.size=w1.heap.size+2:=by rw [hW1];simp
  have B10:W1.heap[w1.heap.size]?=some (.cells #[.slice va P.length vc] 24 (0,0)):=by rw [hW1];exact at_oldP (at_newP rfl)
  have B11:W1.heap[w1.heap.size+1]?=some (.cells #[.int .i64 l,.int .i64 c] 26 (0,0)):=by rw [hW1];exact at_newP (by simp)
  have hs2:=hb2.out.size
  have C10:W4.heap[w1.heap.size]?=some (.cells #[.slice va P.length vc] 24 (0,0)):=by rw [hW4];exact at_oldP (at_oldP (((Touch.of_below hb2.out (fun _=>False)).block _ (by omega) (fun h=>h)).trans B10))
  have C11:W4.heap[w1.heap.size+1]?=some (.cells #[.int .i64 l,.int .i64 c] 26 (0,0)):=by rw [hW4];exact at_oldP (at_oldP (((Touch.of_below hb2.out (fun _=>False)).block _ (by omega) (fun h=>h)).trans B11))
  have C20:W4.heap[w2.heap.size]?=some (.cells #[.slice vb P.length vd] 24 (0,0)):=by rw [hW4];exact at_oldP (at_newP rfl)
  have C21:W4.heap[w2.heap.size+1]?=some (.cells #[.int .i64 l,.int .i64 c] 26 (0,0)):=by rw [hW4];exact at_newP (by simp)
  have hz4:W4.heap.size=w2.heap.size+2:=by rw [hW4];simp
  have z1:W4.cell? ⟨w1.heap.size,0,none⟩=some (.slice va P.length vc):=by rw [blk_cell C10];rfl
  have z2:W4.cell? ⟨w2.heap.size,0,none⟩=some (.slice vb P.length vd):=by rw [blk_cell C20];rfl
  have hall:=Lib.hid (fun (w5:World) (h5:Below W4.heap.size W4 w5)=>(⟨by rw [blk_cell (((Touch.of_below h5 (fun _=>False)).block _ (by omega) (fun h=>h)).trans C11)];rfl,by rw [blk_cell (((Touch.of_below h5 (fun _=>False)).block _ (by omega) (fun h=>h)).trans C11)];rfl,by rw [blk_cell (((Touch.of_below h5 (fun _=>False)).block _ (by omega) (fun h=>h)).trans C21)];rfl,by rw [blk_cell (((Touch.of_below h5 (fun _=>False)).block _ (by omega) (fun h=>h)).trans C21)];rfl⟩:w5.cell? ⟨w1.heap.size+1,0,none⟩=some (.int .i64 l)∧w5.cell? ⟨w1.heap.size+1,1,none⟩=some (.int .i64 c)∧w5.cell? ⟨w2.heap.size+1,0,none⟩=some (.int .i64 l)∧w5.cell? ⟨w2.heap.size+1,1,none⟩=some (.int .i64 c)))
  have ha:=hr1.out W4 (hw1.trans ((hb2.out.mono hw1.size).trans (hw2.mono (Nat.le_trans hw1.size hb2.out.size))))
  have hb:=hr2.out W4 hw2
  have hend:=hb1.out.trans ((hw1.trans ((hb2.out.mono hw1.size).trans (hw2.mono (Nat.le_trans hw1.size hb2.out.size)))).mono hb1.out.size)
  have hk:=Lib.hid (same_yes ha hb hF.out)
  replace hend:=Lib.hid hend
  clear B10 B11 C10 C11 C20 C21 hw1 hw2 ha hb hW1
  replace hW4:=Lib.hid hW4
  go_upto_region 5 with fail
  rw [←hW4.out]
  go_wp2_with fail
  refine hk.out.mono ?_
  rintro e w5 ⟨rfl,hb5⟩
  dsimp only
  obtain⟨s1,s2,s3,s4⟩:=hall.out w5 hb5
  have hfin:=Lib.hid (hend.out.trans (hb5.mono hend.out.size))
  clear hb5 z1 z2
  go_wp2_with fail
  refine reads_any.mono ?_
  rintro e w6 ⟨rfl,hb6⟩
  dsimp only
  replace hb6:=Lib.hid hb6
  go_wp2_with fail
  go_ret
  exact⟨rfl,hfin.out.trans (hb6.out.mono hfin.out.size)⟩
theorem outF_all (R:Except Flt (List Fun)):∃l c er P,outF R=(l,c,er,P):=⟨_,_,_,_,rfl⟩
theorem fit_nil:FitP []:=by
 first | exact⟨by simp,fun x hx=>by cases hx⟩ | (intro x hx;cases hx) | simp [FitP] | (unfold FitP;simp)
set_option maxRecDepth 20000 in
set_option maxHeartbeats 2000000 in
theorem parses_law {w:World}{s:ByteArray}(h63:s.size≤maxLen):Calls Tryd.prog 3 #[.string s] w fun e w'=>e=.returned (.bool true)∧Below w.heap.size w w':=by
 by_cases h1:s.size≤1500
 ·obtain⟨l,c,er,P,hR⟩:=outF_all (parseL s.data.toList)
  have hs:s.size≤1048576:=by omega
  refine parses_both (fun w=>parse_any hs) (fun w=>refparse_any hs) hR ?_ (.inl (decide_eq_false (by omega)))
  cases hp:parseL s.data.toList with
  | error f=>
   rw [hp] at hR
   obtain⟨l',c',er'⟩:=f
   cases hR
   exact fit_nil
  | ok Q=>
   rw [hp] at hR
   cases hR
   exact (parse_fit hp (by simpa using hs)).1
 ·by_cases h2:s.size≤1048576
  ·have g1:decide ((s.size:Int) > 1500)=true:=by simp;omega
   have g2:decide ((s.size:Int)≤1048576)=true:=by simp;omega
   go_enter Tryd.func3,Tryd.ntmps3
   go_wp2_with fail
   go_ret
   exact⟨rfl,Below.refl _ _⟩
  ·exact parses_both (R:=.error (0,0,2)) (fun w=>parse_long (by omega) h63) (fun w=>refparse_long (by omega) h63) rfl fit_nil (.inr ⟨decide_eq_true (by omega),decide_eq_false (by omega)⟩)
end
end Go.Proofs.YtgcanabckogmmaaDoor
