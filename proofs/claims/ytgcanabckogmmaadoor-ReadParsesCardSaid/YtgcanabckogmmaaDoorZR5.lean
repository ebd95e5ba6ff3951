/- LexP, StrK, VMap, OwnE, Sep, RdA, RdX. -/
import Derived.Test.YtgcanabckogmmaaDoorZR4
import Derived.Test.YtgcanabckogmmaaDoorZR1
import Derived.Lib.Bytes
import Derived.Deep.LoopGhost
import Derived.StillTailTactics
import Derived.Deep.QuietTactic
import Derived.BigQuiet
import Derived.Deep.CutRange
import Derived.Deep.CutBlock
import Derived.Outline
namespace Go.Proofs.YtgcanabckogmmaaDoor
set_option linter.unusedVariables false
set_option linter.unusedSimpArgs false
section
open Go.RowKit Go.Shelf
def RowT (w w':World)(v:Value)(out:List Tok):Prop:=w'.ownsRow w.heap.size 38 5 v out.length (out.flatMap cellsT)
def LexPost (w:World)(r:Except Bad (List Tok))(e:Ending)(w':World):Prop:=
 match r with
 | .error (l,c,er)=>e=.returned (.tuple #[.slice none 0 0,.agg #[.int .i64 l,.int .i64 c],.int .i64 er])∧Below w.heap.size w w'
 | .ok out=>(∃v,e=.returned (.tuple #[v,.agg #[.int .i64 0,.int .i64 0],.int .i64 0])∧RowT w w' v out)∧Below w.heap.size w w'
section
variable {w w':World} {s:ByteArray}
theorem own_mono {b1 b2:Nat}{e:TypeId}{size n:Nat}{v:Value}{us:List Value}(h:w.ownsRow b1 e size v n us)(hb:b2≤b1):w.ownsRow b2 e size v n us:=by
 refine⟨h.1,h.2.imp id ?_⟩
 rintro⟨g,cap,cur,e1,h1,h2⟩
 exact⟨g,cap,cur,e1,Nat.le_trans hb h1,h2⟩
theorem row_set {out:List Tok}{gg n c:Nat}(h:RowT w w' (.slice (some ⟨gg,0,none⟩) n c) out)(hne:gg≠w.heap.size)(x y:Value):RowT w ((w'.setCell ⟨w.heap.size,0,none⟩ x).setCell ⟨w.heap.size,1,none⟩ y) (.slice (some ⟨gg,0,none⟩) n c) out:=
 ownsRow_touch (S:=fun k=>k=w.heap.size) h (((Touch.refl w' (fun k=>k=w.heap.size)).setCell (a:=⟨w.heap.size,0,none⟩) (fun _=>rfl) _).setCell (a:=⟨w.heap.size,1,none⟩) (fun _=>rfl) _) (fun b hb e=>by simp [Value.ownBlock] at hb;omega)
theorem rest_all (s:ByteArray):rest s 0=s.data.toList:=by simp [rest]
theorem rest_drop (s:ByteArray)(i k:Nat):(rest s i).drop k=rest s (i+k):=by unfold rest;rw [List.drop_drop]
theorem rest_ne {i:Nat}(h:i<s.size):rest s i≠[]:=by rw [rest_at h];simp
theorem step_bound {l:List UInt8}{ln cl k ln' cl':Nat}{t:Option Tok}(h:stepL l ln cl=.ok (k,ln',cl',t)):ln'≤ln+k∧cl'≤cl+k+1:=by
 have hp:=step_pos h
 unfold stepL at h
 split at h
 ·cases h
 ·split at h
  ·injection h with h;injection h with h1 h;injection h with h2 h;injection h with h3 h;omega
  ·split at h
   ·injection h with h;injection h with h1 h;injection h with h2 h;injection h with h3 h;omega
   ·split at h
    ·injection h with h;injection h with h1 h;injection h with h2 h;injection h with h3 h;omega
    ·split at h
     ·injection h with h;injection h with h1 h;injection h with h2 h;injection h with h3 h;omega
     ·split at h
      ·split at h
       ·cases h
       ·injection h with h;injection h with h1 h;injection h with h2 h;injection h with h3 h;omega
      ·split at h
       ·injection h with h;injection h with h1 h;injection h with h2 h;injection h with h3 h;omega
       ·cases h
theorem step_err {l:List UInt8}{ln cl a b er:Nat}(h:stepL l ln cl=.error (a,b,er)):er≠0:=by
 unfold stepL at h
 split at h
 ·injection h with h;injection h with h1 h;injection h with h2 h;omega
 ·split at h
  ·cases h
  ·split at h
   ·cases h
   ·split at h
    ·cases h
    ·split at h
     ·cases h
     ·split at h
      ·split at h
       ·injection h with h;injection h with h1 h;injection h with h2 h;omega
       ·cases h
      ·split at h
       ·cases h
       ·injection h with h;injection h with h1 h;injection h with h2 h;omega
set_option maxHeartbeats 4000000 in
theorem lex_long (hs:1048576<s.size)(h63:s.size≤maxLen):Calls Tryd.prog 13 #[.string s] w fun e w'=>e=.returned (.tuple #[.slice none 0 0,.agg #[.int .i64 0,.int .i64 0],.int .i64 2])∧Below w.heap.size w w':=by
 unfold maxLen at h63
 have d1:decide ((s.size:Int) > 1048576)=true:=by simp;omega
 go_enter Tryd.func13,Tryd.ntmps13
 go_wp2_with fail
 refine bodyPost_ret (v:=.tuple #[.slice none 0 0,.agg #[.int .i64 0,.int .i64 0],.int .i64 2]) (by simp [results,Tryd.results13,go_sem, *]) rfl ⟨rfl,?_⟩
 exact (Below.refl _ _).alloc (Nat.le_refl _) _
set_option maxHeartbeats 4000000 in
theorem lex_any (hs:s.size≤1048576):Calls Tryd.prog 13 #[.string s] w fun e w'=>LexPost w (lex s.data.toList 1 1) e w':=by
 have d1:decide ((s.size:Int) > 1048576)=false:=by simp;omega
 go_enter Tryd.func13,Tryd.ntmps13
 go_wp2_with fail
 have hb0:Below w.heap.size w ((w.alloc (.cells #[.int .i64 0,.int .i64 0] 26)).alloc (.cells #[.int .i64 1,.int .i64 1,.int .i64 0,.string s,.slice none 0 0] 79)):=((Below.refl _ _).alloc (Nat.le_refl _) _).alloc (by simp) _
 have hr0:((w.alloc (.cells #[.int .i64 0,.int .i64 0] 26)).alloc (.cells #[.int .i64 1,.int .i64 1,.int .i64 0,.string s,.slice none 0 0] 79)).heap[w.heap.size]?=some (.cells #[.int .i64 0,.int .i64 0] 26 (0,0)):=by
  rw [Below.heap_alloc _ _ _ (by simp)]
  exact heap_alloc_new w _
 have hW0:LexW (w.heap.size+2) ((w.alloc (.cells #[.int .i64 0,.int .i64 0] 26)).alloc (.cells #[.int .i64 1,.int .i64 1,.int .i64 0,.string s,.slice none 0 0] 79)) (w.heap.size+1) s 1 1 0 (.slice none 0 0) []:=by
  refine⟨?_,World.ownsRow_nil _ _ _ _,by omega,by simp⟩
  have:=heap_alloc_new (w.alloc (.cells #[.int .i64 0,.int .i64 0] 26)) (.cells #[.int .i64 1,.int .i64 1,.int .i64 0,.string s,.slice none 0 0] 79)
  rwa [World.size_alloc] at this
 generalize ((w.alloc (.cells #[.int .i64 0,.int .i64 0] 26)).alloc (.cells #[.int .i64 1,.int .i64 1,.int .i64 0,.string s,.slice none 0 0] 79))=wa at hb0 hr0 hW0 ⊢
 go_loopg [] s.size (fun k wr=>∃(i ln cl:Nat) (v:Value) (out:List Tok),Hid (i+k=s.size∧lex s.data.toList 1 1=sofar out (lex (rest s i) ln cl))∧i≤s.size∧out.length≤i∧ln≤i+1∧cl≤2*i+1∧LexW (w.heap.size+2) wr (w.heap.size+1) s ln cl i v out∧wr.heap[w.heap.size]?=some (.cells #[.int .i64 0,.int .i64 0] 26 (0,0))∧Below w.heap.size w wr)
 case atStart=>exact⟨0,1,1,_,[],Lib.hid ⟨by omega,by rw [sofar_nil,rest_all]⟩,Nat.zero_le _,Nat.le_refl _,by omega,by omega,hW0,hr0,hb0⟩
 case round=>
  clear hW0 hr0 hb0
  obtain⟨i,ln,cl,v,out,hx,hi,ho,hln,hcl,hW,hr,hb⟩:=hrel
  have c2:=hW.at'.c2
  have r0:=blk_cell hr 0
  have r1:=blk_cell hr 1
  simp at r0 r1
  have rf0:wr.frozen? ⟨w.heap.size,0,none⟩=false:=by simp [World.frozen?,hr]
  have rf1:wr.frozen? ⟨w.heap.size,1,none⟩=false:=by simp [World.frozen?,hr]
  by_cases hlt:i<s.size
  ·have hn:=Lib.hid (next_any hW hlt (by omega) (by omega) (by omega) (by omega))
   have i1:(i:Int)<(s.size:Int):=by omega
   have hown:∀k,v.ownBlock=some k→w.heap.size+2≤k:=fun k e=>(hW.row.lt k e).1
   clear r0 r1 rf0 rf1
   go_wp2_with fail
   refine hn.out.mono ?_
   rintro e w2 (⟨l,c,er,hst,rfl,ht⟩ | ⟨k,ln2,cl2,t,v2,hst,rfl,hW2,ht⟩)
   ·have hb2:Below w.heap.size w w2:=hb.trans (ht.below hb.size (fun k hk e=>by rcases e with rfl | e;omega;have:=hown k e;omega))
    have hr2:=(ht.block w.heap.size (by have:=(Array.getElem?_eq_some_iff.1 hr).1;exact this) (by rintro (e | e);omega;have:=hown _ e;omega)).trans hr
    have her:((er:Int) != 0)=true:=by have:=step_err hst;simp;omega
    have hres:lex s.data.toList 1 1=.error (l,c,er):=by rw [hx.out.2,lex_bad (rest_ne hlt) hst];rfl
    replace hst:=Lib.hid hst
    replace hres:=Lib.hid hres
    clear hn hW hr hb ht c2 hx
    have hlt2:w.heap.size<w2.heap.size:=(Array.getElem?_eq_some_iff.1 hr2).1
    have r0:=blk_cell hr2 0
    have r1:=blk_cell hr2 1
    simp at r0 r1
    have rf0:w2.frozen? ⟨w.heap.size,0,none⟩=false:=by simp [World.frozen?,hr2]
    have rf1:w2.frozen? ⟨w.heap.size,1,none⟩=false:=by simp [World.frozen?,hr2]
    go_wp2_with fail
    go_region
    all_goals
     go_wp2_with fail
     refine bodyPost_ret (v:=.tuple #[.slice none 0 0,.agg #[.int .i64 l,.int .i64 c],.int .i64 er]) (by simp [results,Tryd.results13,go_sem, *]) rfl ?_
     unfold LexPost
     rw [hres.out]
     exact⟨rfl,(((hb2.setCell (p:=⟨w.heap.size,0,none⟩) (Nat.le_refl _) _).setCell (p:=⟨w.heap.size,1,none⟩) (Nat.le_refl _) _).alloc (by simp;exact hb2.size) _).drew⟩
   ·have hb2:Below w.heap.size w w2:=hb.trans (ht.below hb.size (fun k hk e=>by rcases e with rfl | e;omega;have:=hown k e;omega))
    have hr2:=(ht.block w.heap.size (by have:=(Array.getElem?_eq_some_iff.1 hr).1;exact this) (by rintro (e | e);omega;have:=hown _ e;omega)).trans hr
    have hp:=step_pos hst
    have hpb:=step_bound hst
    have hrl:(rest s i).length=s.size-i:=by unfold rest;simp
    have hres:lex s.data.toList 1 1=sofar (out++t.toList) (lex (rest s (i+k)) ln2 cl2):=by rw [hx.out.2,lex_went (rest_ne hlt) hst,sofar_add,rest_drop]
    have hot:(out++t.toList).length≤i+k:=by rw [List.length_append];cases t<;>simp<;>omega
    have hxk:=hx.out.1
    replace hres:=Lib.hid hres
    clear hn hW hr hb ht c2 hx hst
    go_wp2_with fail
    have hWa:=hW2.below ((Below.refl _ w2).alloc (Nat.le_refl _) (.cells #[.int .i64 0,.int .i64 0] 26))
    have hra:=(Below.heap_alloc w2 (.cells #[.int .i64 0,.int .i64 0] 26) w.heap.size (Array.getElem?_eq_some_iff.1 hr2).1).trans hr2
    have hba:=hb2.alloc hb2.size (.cells #[.int .i64 0,.int .i64 0] 26)
    go_roundg (gk-k)
    case rel=>exact⟨i+k,ln2,cl2,v2,_,Lib.hid ⟨by omega,hres.out⟩,by omega,hot,by omega,by omega,hWa,hra,hba⟩
    case measure=>omega
  ·have hie:i=s.size:=by omega
   obtain⟨i0,hi0,hz0,hz1,hz2⟩:=info_parts infoTok
   have hres:lex s.data.toList 1 1=.ok (out++[⟨4,[],0,ln,cl⟩]):=by rw [hx.out.2,rest_end (by omega),lex_nil];rfl
   replace hres:=Lib.hid hres
   have g1:decide ((i:Int)<(s.size:Int))=false:=by simp;omega
   have hW':=Lib.hid hW
   have hrow:=hW.row
   have a0:=hW.at'.c0
   have a1:=hW.at'.c1
   have c4:=hW.at'.c4
   have htop:=hW.top
   have hlb:=hW.at'.lt
   have hne:v.ownBlock≠some (w.heap.size+1):=fun e=>by have:=(hrow.lt _ e).1;omega
   have hon:out.length≤1048576:=by omega
   replace hie:=Lib.hid hie
   have hcz:∀o,(wr.alloc o).drew.cell? ⟨w.heap.size+1,4,none⟩=some v:=fun o=>(World.cell?_alloc_past _ _ _ hlb).trans c4
   have hfz:∀o,(wr.alloc o).drew.frozen? ⟨w.heap.size+1,4,none⟩=false:=fun o=>(World.frozen?_alloc_past _ _ _ hlb).trans (hW.at'.fr 4)
   clear hx hW r0 r1 rf0 rf1
   go_wp2_with fail
   go_region_law ((refine step_append_lies _ (by rfl) _ _ _ (by rfl) (w.heap.size+2) 38 i0 _ 5 48 Tryd.underlying34 hi0 hz0 hz1 hz2 rfl (by omega) v out.length _ (by rfl) ((hrow.alloc _).drew) ⟨wr.heap.size,0,none⟩ 1 1 [.int .u8 4,.string ⟨#[]⟩,.int .i64 0,.int .i64 ln,.int .i64 cl] (by rfl) (by rfl) (World.news_of_block (cs:=#[.int .u8 4,.string ⟨#[]⟩,.int .i64 0,.int .i64 ln,.int .i64 cl]) (t:=38) (fr:=(0,0)) (heap_alloc_new wr _)) (by simp [Value.oneCell']) (by omega) (by unfold maxLen;omega) (by omega) (by simp;omega) (wr.heap.size+1) (by simp) ?_;intro gg cap' w2 hown2 hgrow hat hlt2;have t4:w2.cell? ⟨w.heap.size+1,4,none⟩=some v:=(hgrow.cell_far ⟨w.heap.size+1,4,none⟩ (by simp;omega) (Ne.symm hne)).trans (hcz _);have u4:w2.frozen? ⟨w.heap.size+1,4,none⟩=false:=(hgrow.frozen_far ⟨w.heap.size+1,4,none⟩ (by simp;omega) (Ne.symm hne)).trans (hfz _)))
   all_goals
    have hg':(wr.alloc (.cells #[.int .u8 4,.string ⟨#[]⟩,.int .i64 0,.int .i64 ln,.int .i64 cl] 38)).grownBy w2 v.ownBlock:=⟨hgrow.os,hgrow.tape,hgrow.output,hgrow.size,hgrow.block⟩
    have hend:=put_end (t:=⟨4,[],0,ln,cl⟩) hW'.out (Below.refl _ wr) hg' hown2 hat
    have hlr:w.heap.size<wr.heap.size:=by omega
    have hr2:w2.heap[w.heap.size]?=some (.cells #[.int .i64 0,.int .i64 0] 26 (0,0)):=(hg'.block w.heap.size (by simp;omega) (fun e=>by have:=(hrow.lt _ e.symm).1;omega)).trans ((Below.heap_alloc _ _ _ hlr).trans hr)
    have hbe:Below w.heap.size w (w2.setCell ⟨w.heap.size+1,4,none⟩ (.slice (some ⟨gg,0,none⟩) (out.length+1) cap')):=hb.trans (hend.2.below hb.size (fun k hk e=>by rcases e with rfl | e;omega;have:=(hrow.lt _ e).1;omega))
    have hre:RowT w (w2.setCell ⟨w.heap.size+1,4,none⟩ (.slice (some ⟨gg,0,none⟩) (out.length+1) cap')) (.slice (some ⟨gg,0,none⟩) (out.length+1) cap') (out++[⟨4,[],0,ln,cl⟩]):=own_mono hend.1.row (by omega)
    have x0:=blk_cell hr2 0
    have x1:=blk_cell hr2 1
    simp at x0 x1
    have xf0:w2.frozen? ⟨w.heap.size,0,none⟩=false:=by simp [World.frozen?,hr2]
    have xf1:w2.frozen? ⟨w.heap.size,1,none⟩=false:=by simp [World.frozen?,hr2]
    replace hbe:=Lib.hid hbe
    replace hre:=Lib.hid hre
    have hne2:gg≠w.heap.size:=by
     rintro rfl
     rcases hat with e | e
     ·have:=(hrow.lt _ e).1;omega
     ·omega
    clear hend hW' hg' hgrow hown2 hat hr hb c4 a0 a1 c2 hcz hfz
    go_wp2_with fail
    refine bodyPost_ret (v:=.tuple #[.slice (some ⟨gg,0,none⟩) (out.length+1) cap',.agg #[.int .i64 0,.int .i64 0],.int .i64 0]) (by simp [results,Tryd.results13,go_sem, *]) rfl ?_
    unfold LexPost
    rw [hres.out]
    have hof:=row_set hre.out hne2 (.int .i64 0) (.int .i64 0)
    exact⟨⟨_,rfl,hof⟩,(hbe.out.setCell (p:=⟨w.heap.size,0,none⟩) (Nat.le_refl _) _).setCell (p:=⟨w.heap.size,1,none⟩) (Nat.le_refl _) _⟩
end
end
section
open Go.RowKit Go.Maps Go.WideMaps
instance memBytes (s:ByteArray) (ls:List ByteArray):Decidable (s∈ls):=@List.instDecidableMemOfLawfulBEq ByteArray instBEqOfDecidableEq inferInstance s ls
def litS (s:ByteArray):Lit:=.string s.data.toList
theorem ownsMap_block {w w':World}{P:Program}{k:TypeId}{R:Value→Option (DataW Unit × List MemPlace)}{b n:Nat}{D:DataW Unit}(h:w.ownsMap P k R b n D)(hb:w'.heap[b]?=w.heap[b]?):w'.ownsMap P k R b n D:=by
 obtain⟨es,clock,h1,h2⟩:=h
 exact⟨es,clock,hb.trans h1,h2⟩
def SetS (w:World)(b:Nat)(l:List ByteArray):Prop:=
 ∃D:DataW Unit,w.ownsMap Tryd.prog 9 (unitElem (H:=Unit)) b l.length D∧Maps.size D=l.length∧∀s,Maps.has D (litS s)=decide (s∈l)
theorem SetS.lt {w:World}{b:Nat}{l:List ByteArray}(h:SetS w b l):b<w.heap.size:=by
 obtain⟨D,h1,-⟩:=h
 exact h1.lt
theorem SetS.block {w w':World}{b:Nat}{l:List ByteArray}(h:SetS w b l)(hb:w'.heap[b]?=w.heap[b]?):SetS w' b l:=by
 obtain⟨D,h1,h3⟩:=h
 exact⟨D,ownsMap_block h1 hb,h3⟩
theorem SetS.new (w:World):SetS (w.alloc (.map #[] 0)) w.heap.size []:=by
 refine⟨.map [],World.ownsMap_made w _ _ _,rfl,fun s=>?_⟩
 simp [Maps.has]
section
variable {w:World} {ops:Array Oper} {rest:List Oper} {o:Oper} {a:Act} {Q:Exit→Act→World→Prop}
end
end
section
open Go.RowKit Go.Maps Go.WideMaps
attribute [local instance] Classical.propDecidable
def heldE (v:Value):Option (DataW Value × List MemPlace):=some (.held v,[])
structure HMap (D:DataW Value) (f:Lit→Option Value):Prop where
 isMap:IsMap D
 has:∀l,WideAt.IsKeyLit l→Maps.has D l=(f l).isSome
 at_:∀l v,WideAt.IsKeyLit l→f l=some v→∀z,D.atKey l z=.held v
theorem HMap.nil:HMap (.map []) (fun _=>none):=⟨isMap_empty,fun s _=>by simp [Maps.has],fun s n _ h=>by cases h⟩
theorem HMap.put {D:DataW Value}{f:Lit→Option Value}(h:HMap D f){y:Lit}(hy:WideAt.IsKeyLit y)(v:Value):HMap (D.put y (.held v)) (fun s=>if s=y then some v else f s):=by
 refine⟨h.isMap.put _ _,fun s hs=>?_,fun s m hk hs z=>?_⟩
 ·by_cases e:s=y
  ·subst e
   rw [has_put_same h.isMap hs,if_pos rfl]
   rfl
  ·rw [has_put_other (fun h=>e h),h.has s hs,if_neg e]
 ·by_cases e:s=y
  ·subst e
   rw [if_pos rfl] at hs
   cases hs
   rw [atKey_put_same h.isMap hk]
  ·rw [if_neg e] at hs
   rw [atKey_put_other (fun h=>e h),h.at_ s m hk hs z]
def VMap (w:World)(k:TypeId)(b n:Nat)(f:Lit→Option Value):Prop:=∃D:DataW Value,w.ownsMap Tryd.prog k heldE b n D∧HMap D f
section
variable {w:World} {k:TypeId} {b n:Nat} {f:Lit→Option Value}
theorem VMap.block {w':World}(h:VMap w k b n f)(hb:w'.heap[b]?=w.heap[b]?):VMap w' k b n f:=by
 obtain⟨D,⟨es,clock,h1,h2⟩,h3⟩:=h
 exact⟨D,⟨es,clock,hb.trans h1,h2⟩,h3⟩
theorem VMap.lt (h:VMap w k b n f):b<w.heap.size:=by
 obtain⟨D,h1,h2⟩:=h
 exact h1.lt
theorem VMap.new (w:World)(k:TypeId):VMap (w.alloc (.map #[] 0)) k w.heap.size 0 (fun _=>none):=⟨.map [],World.ownsMap_made w _ _ _,HMap.nil⟩
variable {ops:Array Oper} {rest:List Oper} {o:Oper} {a:Act} {Q:Exit→Act→World→Prop}
theorem wpList_vmap_ins (hg:o.guard=none)(m x v:Operand)(t:TypeId)(hop:o.op=Op.insert t m x v)(k e:TypeId)(K:Keyed Tryd.prog k)(ht:Tryd.prog.underlying t=some (.map k e))(b n:Nat)(f:Lit→Option Value)(h:VMap w k b n f)(hn:n<maxLen)(hm:a.eval m=.map (some b))(key val:Value)(kl:Lit)(hx:a.eval x=key)(hv:a.eval v=val)(hkey:keyOf Tryd.prog k key=some kl)
  (hK:∀w',VMap w' k b (n+1) (fun s=>if s=kl then some val else f s)→Touch w w' (fun j=>j=b)→wpList Tryd.prog ops Q rest (a.put o.dst undef) w'):wpList Tryd.prog ops Q (o::rest) a w:=by
 obtain⟨D,hown,hD⟩:=h
 refine wpList_plain hg fun K' hK'=>?_
 obtain⟨w1,hrun,r1,r2⟩:=hown.store K ht hn hkey (d:=.held val) (ps:=[]) rfl
 unfold Oper.wp
 simp [execOp,hop,hm,hx,hv,hrun,Result.andThen]
 exact hK' _ _ (hK w1 ⟨_,r1,hD.put (K.key hkey) val⟩ (Touch.of_grown r2.grown (fun b e=>(Option.some.inj e).symm)))
theorem wpList_vmap_ok (hg:o.guard=none)(m x:Operand)(t:TypeId)(hop:o.op=Op.lookup t m x true)(k e:TypeId)(K:Keyed Tryd.prog k)(ht:Tryd.prog.underlying t=some (.map k e)){z:Value}(hz:(zeroValue e).run Tryd.prog w=.ok z w)(b n:Nat)(f:Lit→Option Value)(h:VMap w k b n f)(hm:a.eval m=.map (some b))(key:Value)(kl:Lit)(hx:a.eval x=key)(hkey:keyOf Tryd.prog k key=some kl)
  (hK:wpList Tryd.prog ops Q rest (a.put o.dst (.tuple #[(f kl).getD z,.bool (f kl).isSome])) w):wpList Tryd.prog ops Q (o::rest) a w:=by
 obtain⟨D,hown,hD⟩:=h
 refine wpList_lookup_own_ok w hg m x t hop k e K ht heldE hz (.held z) [] rfl b n D hm hown key kl hx hkey ?_
 intro v ps hv
 have hh:=hD.has kl (K.key hkey)
 rw [hh]
 simp only [heldE,Option.some.injEq,Prod.mk.injEq] at hv
 cases hf:f kl with
 | none=>
  rw [hf] at hh hK
  rw [atKey_of_not_has hh] at hv
  obtain⟨e1,-⟩:=hv
  cases e1
  exact hK
 | some u=>
  rw [hf] at hK
  rw [hD.at_ kl u (K.key hkey) hf] at hv
  obtain⟨e1,-⟩:=hv
  cases e1
  exact hK
end
end
section
open Go.RowKit Go.Maps
def OwnE {α:Type}(c:Nat)(R:World→List Value→α→Prop)(w:World)(base:Nat)(e:TypeId)(v:Value)(L:List α):Prop:=
 ∃xs,w.ownsRow base e c v L.length xs∧∀i d,L[i]?=some d→∃cs,R w cs d∧cs.length=c∧∀j u,cs[j]?=some u→xs[i*c+j]?=some u
section
variable {α:Type} {c:Nat} {R:World→List Value→α→Prop} {w w':World} {base:Nat} {e:TypeId} {v:Value} {L:List α}
theorem OwnE.nil (w:World)(base:Nat)(e:TypeId):OwnE c R w base e (.slice none 0 0) []:=⟨[],World.ownsRow_nil _ _ _ _,fun i d h=>by simp at h⟩
theorem OwnE.rd (h:OwnE c R w base e v L):RdE c R w v L:=by
 obtain⟨xs,h1,h2⟩:=h
 rcases h1.2 with ⟨rfl,h0⟩ | ⟨g,cap,cur,rfl,-⟩
 ·exact .inl ⟨List.eq_nil_of_length_eq_zero h0,.inl rfl⟩
 ·refine .inr ⟨g,0,cap,rfl,(h1.lt g rfl).2,fun i d hi=>?_⟩
  obtain⟨cs,k1,k2,k3⟩:=h2 i d hi
  refine⟨cs,k1,k2,fun j u hj=>?_⟩
  have:=h1.cells (g:=g) rfl _ u (k3 j u hj)
  rw [add0] at this
  rw [Nat.zero_add]
  exact this
theorem OwnE.form (h:OwnE c R w base e v L):∃a k,v=.slice a L.length k:=by
 obtain⟨xs,h1,h2⟩:=h
 rcases h1.2 with ⟨rfl,h0⟩ | ⟨g,cap,cur,rfl,-⟩
 ·exact⟨none,0,by rw [h0]⟩
 ·exact⟨_,cap,rfl⟩
theorem OwnE.lt (h:OwnE c R w base e v L):∀g,v.ownBlock=some g→base≤g∧g<w.heap.size:=by
 obtain⟨xs,h1,h2⟩:=h
 exact fun g hg=>h1.lt g hg
theorem OwnE.touch {S:Nat→Prop}(h:OwnE c R w base e v L)(hT:Touch w w' S)(hS:∀g,v.ownBlock=some g→¬S g)(hR:∀cs d,R w cs d→R w' cs d):OwnE c R w' base e v L:=by
 obtain⟨xs,h1,h2⟩:=h
 refine⟨xs,⟨h1.1,?_⟩,fun i d hi=>?_⟩
 ·rcases h1.2 with ⟨rfl,h0⟩ | ⟨g,cap,cur,rfl,k1,k2,k3⟩
  ·exact .inl ⟨rfl,h0⟩
  ·exact .inr ⟨g,cap,cur,rfl,k1,(hT.block g (Array.getElem?_eq_some_iff.1 k2).1 (hS g rfl)).trans k2,k3⟩
 ·obtain⟨cs,k1,k2,k3⟩:=h2 i d hi
  exact⟨cs,hR cs d k1,k2,k3⟩
theorem RdE.flat (h:RdE c R w v L):v=.slice none 0 0∧L=[]∨∃(ad:Addr) (k:Nat) (news:List Value),v=.slice (some ad) L.length k∧news.length=L.length*c∧(∀j u,news[j]?=some u→w.cell? (ad.add j)=some u)∧
  (∀i d,L[i]?=some d→∃cs,R w cs d∧cs.length=c∧∀j u,cs[j]?=some u→news[i*c+j]?=some u)∧∀u∈news,∃cs d,R w cs d∧u∈cs:=by
 rcases h with ⟨rfl,rfl | ⟨a,k,rfl⟩⟩ | ⟨b,off,cap,rfl,hlt,hc⟩
 ·exact .inl ⟨rfl,rfl⟩
 ·exact .inr ⟨a,k,[],rfl,by simp,fun j u h=>by simp at h,fun i d h=>by simp at h,fun u h=>by simp at h⟩
 ·refine .inr ⟨⟨b,off,none⟩,cap,?_⟩
  have key:∀n,n≤L.length→∃news:List Value,news.length=n*c∧(∀j u,news[j]?=some u→w.cell? ⟨b,off+j,none⟩=some u)∧
    (∀i d,i<n→L[i]?=some d→∃cs,R w cs d∧cs.length=c∧∀j u,cs[j]?=some u→news[i*c+j]?=some u)∧∀u∈news,∃cs d,R w cs d∧u∈cs:=by
   intro n
   induction n with
   | zero=>intro _;exact⟨[],by simp,fun j u h=>by simp at h,fun i d h=>by omega,fun u h=>by simp at h⟩
   | succ n ih=>
    intro hn
    obtain⟨news,k1,k2,k3,k4⟩:=ih (by omega)
    obtain⟨d,hd⟩:∃d,L[n]?=some d:=⟨_,List.getElem?_eq_getElem (by omega)⟩
    obtain⟨cs,m1,m2,m3⟩:=hc n d hd
    refine⟨news++cs,by rw [List.length_append,k1,m2,Nat.succ_mul],fun j u hj=>?_,fun i d' hi hd'=>?_,fun u hu=>?_⟩
    ·rcases Nat.lt_or_ge j news.length with h | h
     ·rw [List.getElem?_append_left h] at hj
      exact k2 j u hj
     ·rw [List.getElem?_append_right h] at hj
      have:=m3 _ u hj
      rw [k1] at this h
      rw [show off+j=off+n*c+(j-n*c) by omega]
      exact this
    ·by_cases e:i=n
     ·subst e
      rw [hd] at hd'
      cases hd'
      refine⟨cs,m1,m2,fun j u hj=>?_⟩
      rw [List.getElem?_append_right (by omega),k1,show i*c+j-i*c=j by omega]
      exact hj
     ·obtain⟨cs',n1,n2,n3⟩:=k3 i d' (by omega) hd'
      refine⟨cs',n1,n2,fun j u hj=>?_⟩
      have:=n3 j u hj
      rw [List.getElem?_append_left (List.getElem?_eq_some_iff.1 this).1]
      exact this
    ·rcases List.mem_append.1 hu with h | h
     ·exact k4 u h
     ·exact⟨cs,d,m1,h⟩
  obtain⟨news,k1,k2,k3,k4⟩:=key L.length (Nat.le_refl _)
  refine⟨news,rfl,k1,fun j u hj=>?_,fun i d hd=>k3 i d (List.getElem?_eq_some_iff.1 hd).1 hd,k4⟩
  have e2:(⟨b,off,none⟩:Addr).add j=⟨b,off+j,none⟩:=by
   unfold Addr.add
   split<;>simp_all
  rw [e2]
  exact k2 j u hj
end
end
section
open Go.RowKit Go.Maps
theorem Touch.then {a b c:World}{S S':Nat→Prop}(h:Touch a b S)(g:Touch b c S')(hs:∀k,k<a.heap.size→S' k→S k):Touch a c S:=
 ⟨g.os.trans h.os,g.tape.trans h.tape,g.output.trans h.output,Nat.le_trans h.size g.size,fun k hk hn=>(g.block k (Nat.lt_of_lt_of_le hk h.size) (fun s=>hn (hs k hk s))).trans (h.block k hk hn)⟩
section
variable {α:Type} {c:Nat} {R R':World→List Value→α→Prop} {w w':World} {base:Nat} {e:TypeId} {v:Value} {L:List α} {No No':Nat→Prop}
def Away (No:Nat→Prop)(R:World→List Value→α→Prop)(w:World)(cs:List Value)(d:α):Prop:=∀w',Touch w w' No→R w' cs d
theorem Away.rd {cs:List Value}{d:α}(h:Away No R w cs d):R w cs d:=h w (Touch.refl _ _)
theorem Away.move {cs:List Value}{d:α}(h:Away No R w cs d)(t:Touch w w' No)(hs:∀k,k<w.heap.size→No' k→No k):Away No' R w' cs d:=fun _ t'=>h _ (t.then t' hs)
theorem OwnE.imp (h:OwnE c R w base e v L)(hR:∀cs d,R w cs d→R' w cs d):OwnE c R' w base e v L:=by
 obtain⟨xs,h1,h2⟩:=h
 exact⟨xs,h1,fun i d hi=>by obtain⟨cs,k1,k2,k3⟩:=h2 i d hi;exact⟨cs,hR cs d k1,k2,k3⟩⟩
theorem RdE.imp (h:RdE c R w v L)(hR:∀cs d,R w cs d→R' w cs d):RdE c R' w v L:=by
 refine or_map h id ?_
 rintro⟨b,off,cap,e,hlt,hc⟩
 refine⟨b,off,cap,e,hlt,fun i d hi=>?_⟩
 obtain⟨cs,h1,h2,h3⟩:=hc i d hi
 exact⟨cs,hR cs d h1,h2,h3⟩
theorem OwnE.move (h:OwnE c (Away No R) w base e v L)(t:Touch w w' No)(hv:∀g,v.ownBlock=some g→¬No g)(hs:∀k,k<w.heap.size→No' k→No k):OwnE c (Away No' R) w' base e v L:=by
 obtain⟨xs,h1,h2⟩:=h
 exact⟨xs,ownsRow_touch h1 t hv,fun i d hi=>by obtain⟨cs,k1,k2,k3⟩:=h2 i d hi;exact⟨cs,k1.move t hs,k2,k3⟩⟩
theorem OwnE.go {B:Nat→Prop}(h:OwnE c (Away (fun k=>v.ownBlock=some k∨B k) R) w base e v L)(t:Touch w w' B)(hv:∀g,v.ownBlock=some g→¬B g):OwnE c (Away (fun k=>v.ownBlock=some k∨B k) R) w' base e v L:=by
 obtain⟨xs,h1,h2⟩:=h
 exact⟨xs,ownsRow_touch h1 t hv,fun i d hi=>by obtain⟨cs,k1,k2,k3⟩:=h2 i d hi;exact⟨cs,k1.move (t.mono fun k _ hk=>.inr hk) (fun k _ hk=>hk),k2,k3⟩⟩
theorem OwnE.to {B:Nat→Prop}(h:OwnE c (Away (fun k=>v.ownBlock=some k∨B k) R) w base e v L)(t:Touch w w' No)(hv:∀g,v.ownBlock=some g→¬No g)(hs:∀k,k<w.heap.size→No k→B k):RdE c R w' v L:=by
 obtain⟨xs,h1,h2⟩:=h
 exact OwnE.rd (base:=base) (e:=e) ⟨xs,ownsRow_touch h1 t hv,fun i d hi=>by obtain⟨cs,k1,k2,k3⟩:=h2 i d hi;exact⟨cs,k1 _ (t.mono fun k hk hn=>.inr (hs k hk hn)),k2,k3⟩⟩
end
end
section
open Go.RowKit Go.Maps Go.Shelf
attribute [local go_sem] Oper.semAt_some
theorem wp_tailP {P:Program}{id:Nat}{Q:Exit→Act→World→Prop}{a:Act}{w:World}{l:List Oper}(n:Nat)(hm:P.follows .mixedOrders=true)(hB:Region.lexTailB .any l.toArray n=true)
  (h:wpStill P l.toArray w.drew (fun a'=>wpList P l.toArray Q (l.drop n) a' w.drew) (l.take n) a):(Code.region id l.toArray true).wp P Q a w:=
 wp_region_still_tail n hm hB h
def rstF:Rst→FuncId
 | .fields=>28
 | .nothing=>29
 | .fn=>30
 | .operand=>31
 | .field=>32
 | .phi=>33
 | .call=>34
 | .icall=>35
 | .store=>36
 | .branch=>37
 | .label=>38
 | .result=>39
def formV (x:Int × Rst):Value:=.agg #[.int .u8 x.1,.func (.func (rstF x.2)) #[] #[]]
def formsV (f:List UInt8→Option (Int × Rst)):Lit→Option Value
 | .string s=>(f s).map formV
 | _=>none
structure TokOk (T:List Tok):Prop where
 len:T.length≤2000000
 text:∀t∈T,t.text.length≤2000000
 num:∀t∈T,t.num≤999999999
 line:∀t∈T,t.line≤4000000∧t.col≤4000000
 kind:∀t∈T,t.kind≤4
 last:∃l t,T=l++[t]∧t.kind=4∧∀x∈l,x.kind≠4
structure PAt (B:Nat) (w:World) (pb gw cw:Nat) (T:List Tok) (i ln vb bb:Nat):Prop where
 blk:w.heap[pb]?=some (.cells #[.slice (some ⟨gw,0,none⟩) T.length cw,.int .i64 i,.int .i64 ln,.map (some vb),.map (some bb)] 63 (0,0))
 toks:∀k t,T[k]?=some t→w.cell? ⟨gw,k*5,none⟩=some (.int .u8 t.kind)∧w.cell? ⟨gw,k*5+1,none⟩=some (.string (nmT t))∧w.cell? ⟨gw,k*5+2,none⟩=some (.int .i64 t.num)∧w.cell? ⟨gw,k*5+3,none⟩=some (.int .i64 t.line)∧w.cell? ⟨gw,k*5+4,none⟩=some (.int .i64 t.col)
 vmap:VMap w 9 vb 10 (formsV valueF)
 bmap:VMap w 9 bb 6 (formsV bareF)
 ok:TokOk T
 here:i<T.length
 line:ln≤4000000
 ltP:pb<B
 ltG:gw<B
 ltV:vb<B
 ltB:bb<B
 neG:gw≠pb
 neV:vb≠pb
 neB:bb≠pb
 top:B≤w.heap.size
section
variable {B:Nat} {w w':World} {pb gw cw:Nat} {T:List Tok} {i ln vb bb:Nat}
theorem PAt.keep {No:Nat→Prop}(h:PAt B w pb gw cw T i ln vb bb)(t:Touch w w' No)(hn:∀k,No k→B≤k):PAt B w' pb gw cw T i ln vb bb:=by
 have hbl:∀k,k<B→w'.heap[k]?=w.heap[k]?:=fun k hk=>t.block k (Nat.lt_of_lt_of_le hk h.top) (fun hx=>by have:=hn k hx;omega)
 have hc:∀o u,w.cell? ⟨gw,o,none⟩=some u→w'.cell? ⟨gw,o,none⟩=some u:=fun o u hu=>by
  rw [←hu]
  unfold World.cell?
  rw [hbl gw h.ltG]
 exact⟨(hbl pb h.ltP).trans h.blk,fun k t ht=>by obtain⟨h0,h1,h2,h3,h4⟩:=h.toks k t ht;exact⟨hc _ _ h0,hc _ _ h1,hc _ _ h2,hc _ _ h3,hc _ _ h4⟩,h.vmap.block (hbl vb h.ltV),h.bmap.block (hbl bb h.ltB),h.ok,h.here,h.line,h.ltP,h.ltG,h.ltV,h.ltB,h.neG,h.neV,h.neB,Nat.le_trans h.top t.size⟩
theorem PAt.below (h:PAt B w pb gw cw T i ln vb bb)(hb:Below w.heap.size w w'):PAt B w' pb gw cw T i ln vb bb:=h.keep (No:=fun _=>False) (Touch.of_below hb _) (fun _ h=>h.elim)
theorem PAt.set {i' ln':Nat}(h:PAt B w pb gw cw T i ln vb bb)(t:Touch w w' (fun k=>k=pb))(hb:w'.heap[pb]?=some (.cells #[.slice (some ⟨gw,0,none⟩) T.length cw,.int .i64 i',.int .i64 ln',.map (some vb),.map (some bb)] 63 (0,0)))(hi:i'<T.length)(hl:ln'≤4000000):PAt B w' pb gw cw T i' ln' vb bb:=by
 have hbl:∀k,k<B→k≠pb→w'.heap[k]?=w.heap[k]?:=fun k hk hx=>t.block k (Nat.lt_of_lt_of_le hk h.top) hx
 have hc:∀o u,w.cell? ⟨gw,o,none⟩=some u→w'.cell? ⟨gw,o,none⟩=some u:=fun o u hu=>by
  rw [←hu]
  unfold World.cell?
  rw [hbl gw h.ltG h.neG]
 exact⟨hb,fun k t ht=>by obtain⟨h0,h1,h2,h3,h4⟩:=h.toks k t ht;exact⟨hc _ _ h0,hc _ _ h1,hc _ _ h2,hc _ _ h3,hc _ _ h4⟩,h.vmap.block (hbl vb h.ltV h.neV),h.bmap.block (hbl bb h.ltB h.neB),h.ok,hi,hl,h.ltP,h.ltG,h.ltV,h.ltB,h.neG,h.neV,h.neB,Nat.le_trans h.top t.size⟩
theorem PAt.at (h:PAt B w pb gw cw T i ln vb bb):∃t,T[i]?=some t∧T.drop i=t::T.drop (i+1):=⟨T[i]'h.here,List.getElem?_eq_getElem h.here,List.drop_eq_getElem_cons h.here⟩
def tokV (t:Tok):Value:=.agg #[.int .u8 t.kind,.string (nmT t),.int .i64 t.num,.int .i64 t.line,.int .i64 t.col]
set_option maxRecDepth 20000 in
theorem word_any (h:PAt B w pb gw cw T i ln vb bb){t:Tok}(ht:T[i]?=some t):Calls Tryd.prog 19 #[.pointer (some ⟨pb,0,none⟩)] w fun e w'=>e=.returned (tokV t)∧Below w.heap.size w w':=by
 obtain⟨k0,k1,k2,k3,k4⟩:=h.toks i t ht
 have c0:w.cell? ⟨pb,0,none⟩=some (.slice (some ⟨gw,0,none⟩) T.length cw):=by rw [blk_cell h.blk];rfl
 have c1:w.cell? ⟨pb,1,none⟩=some (.int .i64 i):=by rw [blk_cell h.blk];rfl
 have hi:=h.here
 have hl:=h.ok.len
 have lp:pb<w.heap.size:=Nat.lt_of_lt_of_le h.ltP h.top
 have lg:gw<w.heap.size:=Nat.lt_of_lt_of_le h.ltG h.top
 obtain⟨n,hn⟩:∃n,n=T.length:=⟨_,rfl⟩
 rw [←hn] at c0 hi hl
 have hi2:(i:Int)<(n:Int):=by omega
 unfold tokV
 clear h ht hn
 go_enter Tryd.func19,Tryd.ntmps19
 go_upto_region 1 with fail
 refine wp_tailP 10 (by kernel_rfl) (by kernel_rfl) ?_
 simp only [List.take_succ_cons,List.take_zero,List.drop_succ_cons,List.drop_zero]
 repeat still_step
 refine wpStill_nil ?_
 go_wp2_with fail
 exact bodyPost_ret (v:=.agg #[.int .u8 t.kind,.string (nmT t),.int .i64 t.num,.int .i64 t.line,.int .i64 t.col]) (by simp [results,Tryd.results19,go_sem, *]) rfl ⟨rfl,((Below.refl _ _).drew).alloc (by simp) _⟩
end
end
section
open Go.RowKit
theorem numOf_bd (l:List UInt8):∀(acc:Nat),(∀b∈l,digitB b=true)→l.foldl (fun n b=>10*n+(b.toNat-48)) acc+1≤(acc+1)*10 ^ l.length:=by
 induction l with
 | nil=>intro acc _;simp
 | cons b r ih=>
  intro acc h
  have hb:=h b (by simp)
  unfold digitB at hb
  simp only [Bool.and_eq_true,decide_eq_true_eq,UInt8.le_iff_toNat_le] at hb
  have h1:b.toNat≤57:=hb.2
  have:=ih (10*acc+(b.toNat-48)) (fun x hx=>h x (by simp [hx]))
  rw [List.foldl_cons,List.length_cons]
  refine Nat.le_trans this ?_
  rw [Nat.pow_succ,Nat.mul_comm (10 ^ r.length) 10,←Nat.mul_assoc]
  exact Nat.mul_le_mul_right _ (by omega)
theorem step_tok {l:List UInt8}{ln cl k ln' cl':Nat}{t:Tok}(h:stepL l ln cl=.ok (k,ln',cl',some t)):t.text.length≤l.length∧t.num≤999999999∧t.line=ln∧t.col=cl∧t.kind≤4∧t.kind≠4:=by
 have tl:∀(p:UInt8→Bool) (l:List UInt8),(l.takeWhile p).length≤l.length:=fun p l=>List.Sublist.length_le (List.takeWhile_sublist p)
 unfold stepL at h
 split at h
 ·cases h
 ·split at h
  ·injection h with h;injection h with h1 h;injection h with h2 h;injection h with h3 h;cases h
  ·split at h
   ·injection h with h;injection h with h1 h;injection h with h2 h;injection h with h3 h;cases h
   ·split at h
    ·injection h with h;injection h with h1 h;injection h with h2 h;injection h with h3 h;cases h
    ·split at h
     ·injection h with h;injection h with h1 h;injection h with h2 h;injection h with h3 h;injection h with h
      subst h
      exact⟨tl _ _,Nat.zero_le _,rfl,rfl,by dsimp only;omega,by dsimp only;omega⟩
     ·split at h
      ·split at h
       ·cases h
       ·rename_i hbad
        injection h with h;injection h with h1 h;injection h with h2 h;injection h with h3 h;injection h with h
        subst h
        refine⟨tl _ _,?_,rfl,rfl,by dsimp only;omega,by dsimp only;omega⟩
        rename_i c r _ _ _ _ _
        have h9:((c::r).takeWhile digitB).length≤9:=by
         simp only [Bool.or_eq_true,decide_eq_true_eq,not_or,Nat.not_lt] at hbad
         exact hbad.1.2
        have hd:∀b∈(c::r).takeWhile digitB,digitB b=true:=fun b hb=>List.all_eq_true.1 (List.all_takeWhile) b hb
        have h1:=numOf_bd ((c::r).takeWhile digitB) 0 hd
        have h2:(10:Nat) ^ ((c::r).takeWhile digitB).length≤10 ^ 9:=Nat.pow_le_pow_right (by omega) h9
        show numOf ((c::r).takeWhile digitB)≤_
        unfold numOf
        omega
      ·split at h
       ·injection h with h;injection h with h1 h;injection h with h2 h;injection h with h3 h;injection h with h
        subst h
        exact⟨by simp,Nat.zero_le _,rfl,rfl,by dsimp only;omega,by dsimp only;omega⟩
       ·cases h
theorem lexN_ok:∀(n:Nat) (l:List UInt8) (ln cl:Nat) (T:List Tok),lexN n l ln cl=.ok T→T.length≤l.length+1∧(∀t∈T,t.text.length≤l.length∧t.num≤999999999∧t.line≤ln+l.length∧t.col≤cl+2*l.length∧t.kind≤4)∧∃l' t,T=l'++[t]∧t.kind=4∧∀x∈l',x.kind≠4
 | n,[],ln,cl,T,h=>by
  rw [lexN.eq_def] at h
  injection h with h
  subst h
  refine⟨by simp,fun t ht=>?_,[],⟨4,[],0,ln,cl⟩,rfl,rfl,fun x hx=>by cases hx⟩
  rw [List.mem_singleton] at ht
  subst ht
  exact⟨Nat.le_refl _,Nat.zero_le _,Nat.le_add_right _ _,Nat.le_add_right _ _,Nat.le_refl _⟩
 | 0,c::r,ln,cl,T,h=>by rw [lexN.eq_def] at h;cases h
 | n+1,c::r,ln,cl,T,h=>by
  rw [lexN] at h
  cases hs:stepL (c::r) ln cl with
  | error e=>rw [hs] at h;cases h
  | ok x=>
   obtain⟨k,ln',cl',t⟩:=x
   rw [hs] at h
   have hp:=step_pos hs
   have hb:=step_bound hs
   cases hr:lexN n ((c::r).drop k) ln' cl' with
   | error e=>have h:add t (lexN n ((c::r).drop k) ln' cl')=.ok T:=h;rw [hr] at h;cases h
   | ok T'=>
    have h:add t (lexN n ((c::r).drop k) ln' cl')=.ok T:=h
    rw [hr] at h
    injection h with h
    obtain⟨a1,a2,l',tt,a3,a4,a5⟩:=lexN_ok n _ _ _ _ hr
    have hdl:((c::r).drop k).length=(c::r).length-k:=List.length_drop
    rw [hdl] at a1 a2
    subst h
    cases t with
    | none=>
     refine⟨by show T'.length≤_;omega,fun u hu=>?_,l',tt,a3,a4,a5⟩
     obtain⟨b1,b2,b3,b4,b5⟩:=a2 u hu
     exact⟨by omega,b2,by omega,by omega,b5⟩
    | some t=>
     obtain⟨c1,c2,c3,c4,c5,c6⟩:=step_tok hs
     refine⟨by show (t::T').length≤_;rw [List.length_cons];omega,fun u hu=>?_,t::l',tt,by show t::T'=_;rw [a3];rfl,a4,fun u hu=>?_⟩
     ·rcases List.mem_cons.1 hu with rfl | hu
      ·exact⟨c1,c2,by omega,by omega,c5⟩
      ·obtain⟨b1,b2,b3,b4,b5⟩:=a2 u hu
       exact⟨by omega,b2,by omega,by omega,b5⟩
     ·rcases List.mem_cons.1 hu with rfl | hu
      ·exact c6
      ·exact a5 u hu
theorem lex_tok {s:List UInt8}{T:List Tok}(h:lex s 1 1=.ok T)(hs:s.length≤1048576):TokOk T:=by
 obtain⟨a1,a2,a3⟩:=lexN_ok _ _ _ _ _ h
 exact⟨by omega,fun t ht=>by have:=(a2 t ht).1;omega,fun t ht=>(a2 t ht).2.1,fun t ht=>by have:=(a2 t ht).2.2;omega,fun t ht=>(a2 t ht).2.2.2.2,a3⟩
end
end Go.Proofs.YtgcanabckogmmaaDoor
