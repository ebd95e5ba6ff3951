/- LexQ, RefJ. -/
import Derived.Test.YtgcanabckogmmaaDoorZR23
import Derived.Laws.StructEq
namespace Go.Proofs.YtgcanabckogmmaaDoor
set_option linter.unusedVariables false
set_option linter.unusedSimpArgs false
section
open Go.RowKit Go.Shelf
def RdT (w:World)(v:Value)(out:List Tok):Prop:=
 (out=[]∧v=.slice none 0 0)∨∃g cap,v=.slice (some ⟨g,0,none⟩) out.length cap∧g<w.heap.size∧∀i t,out[i]?=some t→w.cell? ⟨g,i*5,none⟩=some (.int .u8 t.kind)∧w.cell? ⟨g,i*5+1,none⟩=some (.string ⟨t.text.toArray⟩)∧w.cell? ⟨g,i*5+2,none⟩=some (.int .i64 t.num)∧w.cell? ⟨g,i*5+3,none⟩=some (.int .i64 t.line)∧w.cell? ⟨g,i*5+4,none⟩=some (.int .i64 t.col)
theorem flat_at:∀(out:List Tok) (i:Nat) (t:Tok),out[i]?=some t→∀j,j<5→(out.flatMap cellsT)[i*5+j]?=(cellsT t)[j]?
 | [],i,t,h,j,hj=>by simp at h
 | x::r,0,t,h,j,hj=>by
  simp at h
  subst h
  rw [List.flatMap_cons,List.getElem?_append_left (by simpa [cellsT] using hj),Nat.zero_mul,Nat.zero_add]
 | x::r,i+1,t,h,j,hj=>by
  rw [List.flatMap_cons,List.getElem?_append_right (by simp [cellsT];omega)]
  have:=flat_at r i t (by simpa using h) j hj
  rw [←this]
  congr 1
  simp [cellsT]
  omega
section
variable {w0 w w1:World} {v:Value} {out:List Tok}
theorem RowT.rd (h:RowT w0 w v out):RdT w v out:=by
 rcases h.2 with ⟨e,h0⟩ | ⟨g,cap,cur,e,hB,hg,hn,hc,hs,hx⟩
 ·exact Or.inl ⟨by simpa using h0,e⟩
 ·refine Or.inr ⟨g,cap,e,(Array.getElem?_eq_some_iff.1 hg).1,fun i t hi=>?_⟩
  have hlt:i<out.length:=by
   rcases Nat.lt_or_ge i out.length with h | h
   ·exact h
   ·rw [List.getElem?_eq_none h] at hi;cases hi
  have hcell:∀j,j<5→w.cell? ⟨g,i*5+j,none⟩=(cellsT t)[j]?:=by
   intro j hj
   rw [blk_cell hg,←flat_at out i t hi j hj,←hx,List.getElem?_take_of_lt (by omega)]
   simp
  exact⟨hcell 0 (by omega),hcell 1 (by omega),hcell 2 (by omega),hcell 3 (by omega),hcell 4 (by omega)⟩
theorem RdT.form (h:RdT w v out):∃a c,v=.slice a out.length c:=by
 rcases h with ⟨rfl,rfl⟩ | ⟨g,cap,rfl,_⟩
 ·exact⟨none,0,rfl⟩
 ·exact⟨_,cap,rfl⟩
theorem RdT.below (h:RdT w v out)(hb:Below w.heap.size w w1):RdT w1 v out:=by
 refine or_map h id ?_
 rintro⟨g,cap,e,hlt,hc⟩
 refine⟨g,cap,e,Nat.lt_of_lt_of_le hlt hb.size,fun i t hi=>?_⟩
 obtain⟨h0,h1,h2,h3,h4⟩:=hc i t hi
 exact⟨(hb.cell (p:=⟨g,i*5,none⟩) hlt).trans h0,(hb.cell (p:=⟨g,i*5+1,none⟩) hlt).trans h1,(hb.cell (p:=⟨g,i*5+2,none⟩) hlt).trans h2,(hb.cell (p:=⟨g,i*5+3,none⟩) hlt).trans h3,(hb.cell (p:=⟨g,i*5+4,none⟩) hlt).trans h4⟩
theorem RdT.at (h:RdT w v out){i:Nat}{t:Tok}(hi:out[i]?=some t):∃g cap,v=.slice (some ⟨g,0,none⟩) out.length cap∧g<w.heap.size∧w.cell? ⟨g,i*5,none⟩=some (.int .u8 t.kind)∧w.cell? ⟨g,i*5+1,none⟩=some (.string ⟨t.text.toArray⟩)∧w.cell? ⟨g,i*5+2,none⟩=some (.int .i64 t.num)∧w.cell? ⟨g,i*5+3,none⟩=some (.int .i64 t.line)∧w.cell? ⟨g,i*5+4,none⟩=some (.int .i64 t.col):=by
 rcases h with ⟨rfl,_⟩ | ⟨g,cap,e,hlt,hc⟩
 ·simp at hi
 ·exact⟨g,cap,e,hlt,hc i t hi⟩
end
end
section
open Go.RowKit Go.Shelf
theorem add_none' (r:Except Bad (List Tok)):add none r=r:=by cases r<;>rfl
theorem add_addR (t:Tok)(r:Except Bad (List Tok)):add (some t) r=sofar [t] r:=by cases r<;>rfl
theorem lex_blank {b:UInt8}(hb:blankB b=true)(r:List UInt8)(ln cl:Nat):lex (b::r) ln cl=lex r ln (cl+1):=by
 have h10:∀c:UInt8,blankB c=true→c≠10:=by rintro c h rfl;exact absurd h (by decide)
 have hst:∀(c:UInt8) (q:List UInt8) (a d:Nat),blankB c=true→stepL (c::q) a d=.ok ((q.takeWhile blankB).length+1,a,d+((q.takeWhile blankB).length+1),none):=by
  intro c q a d hc
  unfold stepL
  dsimp only
  rw [if_neg (h10 c hc),if_pos hc,List.takeWhile_cons,if_pos hc,List.length_cons]
 rw [lex_went (by simp) (hst b r ln cl hb),add_none']
 cases r with
 | nil=>rfl
 | cons c q=>
  by_cases hc:blankB c=true
  ·rw [lex_went (by simp) (hst c q ln (cl+1) hc),add_none',List.takeWhile_cons,if_pos hc,List.length_cons,List.drop_succ_cons]
   congr 1
   omega
  ·rw [List.takeWhile_cons,if_neg hc]
   rfl
def sp (s:ByteArray)(i:Nat):Nat × Nat:=spotOf (s.data.toList.take i)
theorem fold_flat:∀(l:List UInt8) (p:Nat × Nat),(∀b∈l,b≠10)→l.foldl spotStep p=(p.1,p.2+l.length)
 | [],p,_=>rfl
 | b::l,p,h=>by
  rw [List.foldl_cons,fold_flat l _ (fun c hc=>h c (by simp [hc]))]
  unfold spotStep
  rw [if_neg (h b (by simp))]
  simp
  omega
theorem sp_run {p:UInt8→Bool}(h10:p 10=false)(s:ByteArray)(i:Nat):sp s (i+run p s i)=((sp s i).1,(sp s i).2+run p s i):=by
 have ht:s.data.toList.take (i+run p s i)=s.data.toList.take i++word p s i:=by
  rw [List.take_add]
  congr 1
  show (rest s i).take _=_
  have h:=List.takeWhile_append_dropWhile (p:=p) (l:=rest s i)
  unfold run word
  conv=>lhs;arg 2;rw [←h]
  rw [List.take_left]
 unfold sp
 rw [ht]
 unfold spotOf
 rw [List.foldl_append,fold_flat _ _ (fun b hb e=>by have:=mem_tw hb;rw [e,h10] at this;cases this),word_len]
theorem sp_one {s:ByteArray}{i:Nat}(hi:i<s.size):sp s (i+1)=spotStep (sp s i) s[i]:=by
 unfold sp
 rw [List.take_succ_eq_append_getElem (by simpa using hi),spotOf_snoc]
 rfl
def lexAt (s:ByteArray)(i:Nat):Except Bad (List Tok):=lex (rest s i) (sp s i).1 (sp s i).2
theorem lexAt_zero (s:ByteArray):lexAt s 0=lex s.data.toList 1 1:=by unfold lexAt;rw [rest_all];rfl
theorem lexAt_end {s:ByteArray}{i:Nat}(h:s.size≤i):lexAt s i=.ok [⟨4,[],0,(sp s i).1,(sp s i).2⟩]:=by unfold lexAt;rw [rest_end h,lex_nil]
section
variable {s:ByteArray} {i:Nat}
theorem lexAt_blank (hi:i<s.size)(hb:s[i]=10∨blankB s[i]=true):lexAt s i=lexAt s (i+1):=by
 unfold lexAt
 rw [sp_one hi,rest_at hi]
 rcases hb with hb | hb
 ·have hs:stepL (s[i]::rest s (i+1)) (sp s i).1 (sp s i).2=.ok (1,(sp s i).1+1,1,none):=by
   unfold stepL
   dsimp only
   rw [if_pos hb]
  rw [lex_went (by simp) hs,add_none']
  unfold spotStep
  rw [if_pos hb]
  rfl
 ·rw [lex_blank hb]
  unfold spotStep
  rw [if_neg (fun e=>by rw [e] at hb;exact absurd hb (by decide))]
theorem lexAt_went {p:UInt8→Bool}{t:Option Tok}(hi:i<s.size)(h10:p 10=false)
  (hs:stepL (rest s i) (sp s i).1 (sp s i).2=.ok (run p s i,(sp s i).1,(sp s i).2+run p s i,t)):lexAt s i=sofar t.toList (lexAt s (i+run p s i)):=by
 unfold lexAt
 rw [sp_run h10,lex_went (rest_ne hi) hs,rest_drop]
 cases t with
 | none=>rw [add_none'];exact (sofar_nil _).symm
 | some t=>rw [add_addR];rfl
theorem lexAt_note (hi:i<s.size)(h1:¬(s[i]=10∨blankB s[i]=true))(h2:s[i]=59):lexAt s i=lexAt s (i+run (· != 10) s i):=by
 have h:=lexAt_went (p:=(· != 10)) (t:=none) hi (by decide) (by
  have hr:=rest_at hi
  unfold run
  rw [hr]
  unfold stepL
  dsimp only
  rw [if_neg (fun e=>h1 (.inl e)),if_neg (fun e=>h1 (.inr e)),if_pos h2])
 rw [h]
 exact sofar_nil _
theorem lexAt_name (hi:i<s.size)(h1:¬(s[i]=10∨blankB s[i]=true))(h2:s[i]≠59)(h3:letterB s[i]=true):lexAt s i=sofar [⟨1,word partB s i,0,(sp s i).1,(sp s i).2⟩] (lexAt s (i+run partB s i)):=by
 exact lexAt_went (p:=partB) (t:=some _) hi (by decide) (by
  have hr:=rest_at hi
  unfold run word
  rw [hr]
  unfold stepL
  dsimp only
  rw [if_neg (fun e=>h1 (.inl e)),if_neg (fun e=>h1 (.inr e)),if_neg h2,if_pos h3])
theorem badN_eq (hi:i<s.size):badN s i=(((rest s (i+run digitB s i)).head?.any partB || decide (9<run digitB s i)) || (decide (1<run digitB s i)&&decide (s[i]=48))):=by
 unfold badN
 rw [drop_run,rest_at hi]
 simp
theorem stepL_digit (hi:i<s.size)(h1:¬(s[i]=10∨blankB s[i]=true))(h2:s[i]≠59)(h3:letterB s[i]=false)(h4:digitB s[i]=true)(ln cl:Nat):
  stepL (rest s i) ln cl=if badN s i=true then .error (ln,cl,31) else .ok (run digitB s i,ln,cl+run digitB s i,some ⟨2,word digitB s i,numOf (word digitB s i),ln,cl⟩):=by
 have hb:badN s i=(((s[i]::rest s (i+1)).dropWhile digitB).head?.any partB || decide (9<((s[i]::rest s (i+1)).takeWhile digitB).length) || (decide (1<((s[i]::rest s (i+1)).takeWhile digitB).length)&&decide (s[i]=48))):=by
  unfold badN run
  rw [rest_at hi]
  simp
 rw [hb]
 unfold run word
 rw [rest_at hi]
 unfold stepL
 dsimp only
 rw [if_neg (fun e=>h1 (.inl e)),if_neg (fun e=>h1 (.inr e)),if_neg h2,if_neg (by rw [h3];simp),if_pos h4]
theorem lexAt_number (hi:i<s.size)(h1:¬(s[i]=10∨blankB s[i]=true))(h2:s[i]≠59)(h3:letterB s[i]=false)(h4:digitB s[i]=true)(h5:badN s i=false):
  lexAt s i=sofar [⟨2,word digitB s i,numOf (word digitB s i),(sp s i).1,(sp s i).2⟩] (lexAt s (i+run digitB s i)):=
 lexAt_went (p:=digitB) (t:=some _) hi (by decide) (by rw [stepL_digit hi h1 h2 h3 h4,h5,if_neg (by simp)])
theorem lexAt_badnum (hi:i<s.size)(h1:¬(s[i]=10∨blankB s[i]=true))(h2:s[i]≠59)(h3:letterB s[i]=false)(h4:digitB s[i]=true)(h5:badN s i=true):
  lexAt s i=.error ((sp s i).1,(sp s i).2,31):=
 lex_bad (rest_ne hi) (by rw [stepL_digit hi h1 h2 h3 h4,h5,if_pos rfl])
theorem lexAt_sign (hi:i<s.size)(h1:¬(s[i]=10∨blankB s[i]=true))(h2:s[i]≠59)(h3:letterB s[i]=false)(h4:digitB s[i]=false)(h5:signB s[i]=true):
  lexAt s i=sofar [⟨3,[s[i]],0,(sp s i).1,(sp s i).2⟩] (lexAt s (i+1)):=by
 have hs:stepL (rest s i) (sp s i).1 (sp s i).2=.ok (1,(sp s i).1,(sp s i).2+1,some ⟨3,[s[i]],0,(sp s i).1,(sp s i).2⟩):=by
  rw [rest_at hi]
  unfold stepL
  dsimp only
  rw [if_neg (fun e=>h1 (.inl e)),if_neg (fun e=>h1 (.inr e)),if_neg h2,if_neg (by rw [h3];simp),if_neg (by rw [h4];simp),if_pos h5]
 unfold lexAt
 rw [lex_went (rest_ne hi) hs,rest_drop,add_addR,sp_one hi]
 unfold spotStep
 rw [if_neg (fun e=>h1 (.inl e))]
theorem lexAt_byte (hi:i<s.size)(h1:¬(s[i]=10∨blankB s[i]=true))(h2:s[i]≠59)(h3:letterB s[i]=false)(h4:digitB s[i]=false)(h5:signB s[i]=false):
  lexAt s i=.error ((sp s i).1,(sp s i).2,30):=by
 refine lex_bad (rest_ne hi) ?_
 rw [rest_at hi]
 unfold stepL
 dsimp only
 rw [if_neg (fun e=>h1 (.inl e)),if_neg (fun e=>h1 (.inr e)),if_neg h2,if_neg (by rw [h3];simp),if_neg (by rw [h4];simp),if_neg (by rw [h5];simp)]
end
theorem numOf_snoc (l:List UInt8)(b:UInt8):numOf (l++[b])=10*numOf l+(b.toNat-48):=by simp [numOf]
theorem digit_val {b:UInt8}(h:digitB b=true):48≤b.toNat∧b.toNat≤57:=by
 unfold digitB at h
 simp [UInt8.le_iff_toNat_le] at h
 exact h
theorem numOf_lt (l:List UInt8)(h:∀b∈l,digitB b=true):numOf l<10 ^ l.length:=by
 refine snoc_ind (Q:=fun l=>(∀b∈l,digitB b=true)→numOf l<10 ^ l.length) (fun _=>by simp [numOf]) (fun l b ih h=>?_) l h
 have h1:=ih (fun c hc=>h c (by simp [hc]))
 have h2:=digit_val (h b (by simp))
 rw [numOf_snoc,List.length_append,List.length_singleton,Nat.pow_succ]
 omega
end
end Go.Proofs.YtgcanabckogmmaaDoor
