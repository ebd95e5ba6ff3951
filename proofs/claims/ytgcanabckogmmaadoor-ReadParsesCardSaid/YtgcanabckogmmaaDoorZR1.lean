/- Law, TabD, Tab, LaidT, LexM, Api, RdM, LexA. -/
import Derived.Test.YtgcanabckogmmaaDoorRows
import Derived.ProofKit
import Derived.SizedLaws
import Derived.Below
import Derived.Maps.Views
import Derived.Maps.Own
import Derived.Maps.OwnSet
import Derived.Maps.AppendAt
import Derived.Laws.AppendOwnNone
import Derived.WalkKit
import Derived.Lib.Hide
import Derived.Defers
import Derived.Deep.Draws
import Derived.Recover
import Derived.Lib.LaidTab
import Derived.Deep.Strs
import Derived.Deep.Slices
import Derived.Lib.Atoi
import Derived.DataReads
import Derived.ChangeSame
import Derived.Deep.Fields
import Derived.WalkLawsBesides
import Derived.Deep.QuietTactic
import Derived.BigQuiet
namespace Go.Proofs.YtgcanabckogmmaaDoor
set_option linter.unusedVariables false
set_option linter.unusedSimpArgs false
section
open Go.RowKit Go.WideShapes Go.ChangeShapes Go.ChangeAt
section
variable {H:Type} {enc:TypeId × Value→H} {P:Program}
theorem all_stay {W W':World}(hl:laidOutB P=true)(hb:Below W.heap.size W W'):∀{ts:List TypeId} {vs:List Value} {ds:List (DataW H)} {ps:List MemPlace},
  (∀t∈ts,P.readableRec t=true∧t<P.types.size)→DataW.TrodAll enc P W 0 (fun _=>true) true ts vs ds ps→(∀x∈ps,x.block<W.heap.size)→
  DataW.TrodAll enc P W' 0 (fun b=>decide (b<W.heap.size)) true ts vs ds ps
 | [],vs,ds,ps,_,h,_=>by
  obtain⟨rfl,rfl,rfl⟩:=trodAll_nil h
  rfl
 | t::ts,vs,ds,ps,hts,h,hlt=>by
  obtain⟨v,vs',d,ds',p,q,rfl,rfl,rfl,h1,h2⟩:=trodAll_cons h
  have g:=hts t (by simp)
  exact⟨p,q,Below.trod hl g.1 g.2 h1 hb (fun x hx=>hlt x (by simp [hx])),all_stay hl hb (fun u hu=>hts u (by simp [hu])) h2 (fun x hx=>hlt x (by simp [hx])),rfl⟩
theorem law_post {f:Func}{s:ChangeSpec}{W W':World}{args:Array Value}{ds gs:List (DataW H)}{before:List MemPlace}{tb:TypeId}{apart:Bool}
  (hl:laidOutB P=true) (hts:∀t∈f.params.toList,P.readableRec t=true∧t<P.types.size) (hrt:f.resultTypes=#[tb]) (htb:P.underlying tb=some .bool) (hvars:s.vars=[])
  (hspec:∀ds:List (DataW H),ds.length=f.params.toList.length→s.fn H ds={results:=[.lit (.bool true)],args:=ds})
  (hW:DataW.Whole enc P f.params.toList s.vars apart W args.toList ds gs before) (hb:Below W.heap.size W W'):
  s.post enc P f apart true false false W args (.bool true) W':=by
 have hlt:∀p∈before,p.block<W.heap.size:=fun p hp=>hW.lt p hp
 have hW0:=hW
 obtain⟨p,q,hA,hV,rfl,_,_⟩:=hW0
 rw [hvars] at hV
 obtain⟨rfl,rfl⟩:=trodVars_none hV
 have hlen:∀{ts:List TypeId} {vs:List Value} {ds:List (DataW H)} {ps:List MemPlace},DataW.TrodAll enc P W 0 (fun _=>true) true ts vs ds ps→ds.length=ts.length:=by
  intro ts
  induction ts with
  | nil=>intro vs ds ps h;obtain⟨_,rfl,_⟩:=trodAll_nil h;rfl
  | cons t ts ih=>intro vs ds ps h;obtain⟨_,_,_,_,_,_,_,rfl,_,_,h2⟩:=trodAll_cons h;simp [ih h2]
 have hs:=hspec ds (hlen hA)
 refine⟨ds,[],p++[],[],p,[],hW,?_,?_,?_,World.keptBut_mono (fun x hx=>⟨hx,Or.inr (Or.inl (by simpa using hx))⟩) (hb.frame (·∈p++[])),fun h=>by cases h⟩
 ·rw [List.append_nil,hs,hrt]
  exact trodAll_mk1 (shut_bool htb _)
 ·rw [List.append_nil,hs]
  exact all_stay hl hb hts hA (fun x hx=>hlt x (by simp [hx]))
 ·rw [List.append_nil,hs,hvars]
  rfl
end
end
section
open Go.Maps
theorem snoc_ind {α:Type}{Q:List α→Prop}(h0:Q [])(h1:∀l x,Q l→Q (l++[x]))(l:List α):Q l:=by
 have h:∀r:List α,Q r.reverse:=by
  intro r
  induction r with
  | nil=>exact h0
  | cons x r ih=>rw [List.reverse_cons];exact h1 _ _ ih
 have:=h l.reverse
 rwa [List.reverse_reverse] at this
section
variable {H:Type}
def num (i:Nat):DataW H:=.lit (.int .i64 i)
def tabD (ls:List Lit):DataW H:=(ls.foldl (fun (m:DataW H × Nat) x=>(m.1.put x (num m.2),m.2+1)) (.map [],0)).1
end
end
section
open Go.RowKit Go.Maps
theorem or_map {a b c d:Prop}(h:a∨b)(f:a→c)(g:b→d):c∨d:=h.elim (fun x=>Or.inl (f x)) (fun x=>Or.inr (g x))
structure Touch (w w':World) (S:Nat→Prop):Prop where
 os:w'.os=w.os
 tape:w'.tape=w.tape
 output:w'.output=w.output
 size:w.heap.size≤w'.heap.size
 block:∀k,k<w.heap.size→¬S k→w'.heap[k]?=w.heap[k]?
theorem Touch.refl (w:World)(S:Nat→Prop):Touch w w S:=⟨rfl,rfl,rfl,Nat.le_refl _,fun _ _ _=>rfl⟩
theorem Touch.mono {w w':World}{S S':Nat→Prop}(h:Touch w w' S)(hs:∀k,k<w.heap.size→S k→S' k):Touch w w' S':=⟨h.os,h.tape,h.output,h.size,fun k hk hn=>h.block k hk (fun s=>hn (hs k hk s))⟩
theorem Touch.trans {a b c:World}{S:Nat→Prop}(h:Touch a b S)(g:Touch b c S):Touch a c S:=
 ⟨g.os.trans h.os,g.tape.trans h.tape,g.output.trans h.output,Nat.le_trans h.size g.size,fun k hk hn=>(g.block k (Nat.lt_of_lt_of_le hk h.size) hn).trans (h.block k hk hn)⟩
theorem Touch.below {w w':World}{S:Nat→Prop}(h:Touch w w' S){B:Nat}(hB:B≤w.heap.size)(hs:∀k,k<B→¬S k):Below B w w':=⟨h.os,h.tape,h.output,h.size,fun k hk=>h.block k (Nat.lt_of_lt_of_le hk hB) (hs k hk)⟩
theorem Touch.of_below {w w':World}(h:Below w.heap.size w w')(S:Nat→Prop):Touch w w' S:=⟨h.os,h.tape,h.output,h.size,fun k hk _=>h.block k hk⟩
theorem Touch.of_grown {w w':World}{row:Option Nat}(h:w.grownBy w' row){S:Nat→Prop}(hs:∀k,row=some k→S k):Touch w w' S:=
 ⟨h.os,h.tape,h.output,h.size,fun k hk hn=>h.block k hk (fun e=>hn (hs k e.symm))⟩
theorem Touch.alloc {w w':World}{S:Nat→Prop}(h:Touch w w' S)(o:Obj):Touch w (w'.alloc o) S:=
 ⟨h.os,h.tape,h.output,Nat.le_trans h.size (by simp),fun k hk hn=>(Below.heap_alloc w' o k (Nat.lt_of_lt_of_le hk h.size)).trans (h.block k hk hn)⟩
theorem Touch.setCell {w w':World}{S:Nat→Prop}(h:Touch w w' S){a:Addr}(ha:a.block<w.heap.size→S a.block)(u:Value):Touch w (w'.setCell a u) S:=
 ⟨h.os,h.tape,h.output,by simpa using h.size,fun k hk hn=>(Below.heap_setCell w' a u k (fun e=>hn (by subst e;exact ha hk))).trans (h.block k hk hn)⟩
theorem Touch.drew {w w':World}{S:Nat→Prop}(h:Touch w w' S):Touch w w'.drew S:=⟨h.os,h.tape,h.output,h.size,h.block⟩
theorem blk_set {w:World}{b i:Nat}{cs:Array Value}{S:TypeId}{fr:Nat × Nat}(v:Value)(h:w.heap[b]?=some (.cells cs S fr)):
  (w.setCell ⟨b,i,none⟩ v).heap[b]?=some (.cells (cs.setIfInBounds i v) S fr):=by
 simp [World.setCell,Array.getElem?_modify,h]
theorem blk_cell {w:World}{b:Nat}{cs:Array Value}{S:TypeId}{fr:Nat × Nat}(h:w.heap[b]?=some (.cells cs S fr))(i:Nat):w.cell? ⟨b,i,none⟩=cs[i]?:=by
 simp [World.cell?,h]
theorem row_form {w:World}{base:Nat}{e:TypeId}{size:Nat}{v:Value}{n:Nat}{xs:List Value}(h:w.ownsRow base e size v n xs)(hn:0<n):∃g cap,v=.slice (some ⟨g,0,none⟩) n cap:=by
 rcases h.2 with ⟨_,h0⟩ | ⟨g,cap,cur,e1,_⟩
 ·omega
 ·exact⟨g,cap,e1⟩
instance decBytes:DecidableEq ByteArray:=fun a b=>decidable_of_iff (a.data=b.data) ⟨fun h=>ByteArray.ext h,fun h=>h ▸ rfl⟩
theorem add0 (g i:Nat):(⟨g,0,none⟩:Addr).add i=⟨g,i,none⟩:=by
 unfold Addr.add
 split<;>simp_all
def Rd (w:World)(s:Value)(xs:List Value):Prop:=
 (xs=[]∧(s=.slice none 0 0∨∃a c,s=.slice (some a) 0 c))∨∃b off cap,s=.slice (some ⟨b,off,none⟩) xs.length cap∧b<w.heap.size∧∀i u,xs[i]?=some u→w.cell? ⟨b,off+i,none⟩=some u
theorem Rd.form {w:World}{s:Value}{xs:List Value}(h:Rd w s xs):∃a c,s=.slice a xs.length c:=by
 rcases h with ⟨rfl,rfl | ⟨a,c,rfl⟩⟩ | ⟨b,off,cap,rfl,_⟩
 ·exact⟨none,0,rfl⟩
 ·exact⟨some a,c,rfl⟩
 ·exact⟨_,cap,rfl⟩
theorem Rd.below {w w':World}{s:Value}{xs:List Value}(h:Rd w s xs)(hb:Below w.heap.size w w'):Rd w' s xs:=by
 refine or_map h id ?_
 rintro⟨b,off,cap,e,hlt,hc⟩
 exact⟨b,off,cap,e,Nat.lt_of_lt_of_le hlt hb.size,fun i u hu=>(hb.cell (p:=⟨b,off+i,none⟩) hlt).trans (hc i u hu)⟩
theorem Rd.at {w:World}{s:Value}{xs:List Value}(h:Rd w s xs){i:Nat}{u:Value}(hi:xs[i]?=some u):∃b off cap,s=.slice (some ⟨b,off,none⟩) xs.length cap∧b<w.heap.size∧w.cell? ⟨b,off+i,none⟩=some u:=by
 rcases h with ⟨rfl,_⟩ | ⟨b,off,cap,e,hlt,hc⟩
 ·simp at hi
 ·exact⟨b,off,cap,e,hlt,hc i u hi⟩
theorem ownsRow_touch {w w':World}{base:Nat}{e:TypeId}{size:Nat}{v:Value}{n:Nat}{xs:List Value}{S:Nat→Prop}(h:w.ownsRow base e size v n xs)(ht:Touch w w' S)(hd:∀b,v.ownBlock=some b→¬S b):w'.ownsRow base e size v n xs:=by
 obtain⟨h1,h2⟩:=h
 refine⟨h1,or_map h2 id ?_⟩
 rintro⟨g,cap,cur,rfl,h3,h4,h5⟩
 exact⟨g,cap,cur,rfl,h3,(ht.block g (Array.getElem?_eq_some_iff.1 h4).1 (hd g rfl)).trans h4,h5⟩
structure Tab {κ:Type} (P:Program) (K E S:TypeId) (size:Nat) (flat:κ→List Value) (lit:κ→Lit) (A B:Nat) (w:World) (sb bm:Nat) (v:Value) (ks:List κ):Prop where
 blk:w.heap[sb]?=some (.cells #[.map (some bm),v] S (0,0))
 map:w.ownsMap P K (plainElem (H:=Unit) P E) bm ks.length (tabD (ks.map lit))
 row:w.ownsRow B K size v ks.length (ks.flatMap flat)
 sbA:A≤sb
 bmA:A≤bm
 sbB:sb<B
 bmB:bm<B
 ne:sb≠bm
 top:B≤w.heap.size
 nodup:(ks.map lit).Nodup
def Own (sb bm:Nat)(v:Value)(k:Nat):Prop:=k=sb∨k=bm∨v.ownBlock=some k
section
variable {κ:Type} {P:Program} {K E S:TypeId} {size:Nat} {flat:κ→List Value} {lit:κ→Lit} {A B:Nat} {w:World} {sb bm:Nat} {v:Value} {ks:List κ}
theorem Tab.c0 (T:Tab P K E S size flat lit A B w sb bm v ks):w.cell? ⟨sb,0,none⟩=some (.map (some bm)):=by simp [World.cell?,T.blk]
theorem Tab.c1 (T:Tab P K E S size flat lit A B w sb bm v ks):w.cell? ⟨sb,1,none⟩=some v:=by simp [World.cell?,T.blk]
theorem Tab.f0 (T:Tab P K E S size flat lit A B w sb bm v ks)(i:Nat):w.frozen? ⟨sb,i,none⟩=false:=by simp [World.frozen?,T.blk]
theorem Tab.lt (T:Tab P K E S size flat lit A B w sb bm v ks):∀k,Own sb bm v k→k<w.heap.size:=by
 rintro k (rfl | rfl | h)
 ·exact (Array.getElem?_eq_some_iff.1 T.blk).1
 ·exact T.map.lt
 ·exact (T.row.lt k h).2
theorem Tab.low (T:Tab P K E S size flat lit A B w sb bm v ks):∀k,Own sb bm v k→A≤k:=by
 rintro k (rfl | rfl | h)
 ·exact T.sbA
 ·exact T.bmA
 ·exact Nat.le_trans T.sbA (Nat.le_trans (Nat.le_of_lt T.sbB) (T.row.lt k h).1)
theorem Tab.kept {w':World}{Q:Nat→Prop}(T:Tab P K E S size flat lit A B w sb bm v ks)(h:Touch w w' Q)(hd:∀k,Own sb bm v k→¬Q k):Tab P K E S size flat lit A B w' sb bm v ks:=by
 have hb:∀k,Own sb bm v k→w'.heap[k]?=w.heap[k]?:=fun k hk=>h.block k (T.lt k hk) (hd k hk)
 refine⟨(hb sb (Or.inl rfl)).trans T.blk,?_,?_,T.sbA,T.bmA,T.sbB,T.bmB,T.ne,Nat.le_trans T.top h.size,T.nodup⟩
 ·obtain⟨es,clock,h1,h2⟩:=T.map
  exact⟨es,clock,(hb bm (Or.inr (Or.inl rfl))).trans h1,h2⟩
 ·obtain⟨h1,h2⟩:=T.row
  refine⟨h1,or_map h2 id ?_⟩
  rintro⟨g,cap,cur,rfl,h3,h4,h5⟩
  exact⟨g,cap,cur,rfl,h3,(hb g (Or.inr (Or.inr rfl))).trans h4,h5⟩
theorem Tab.form (T:Tab P K E S size flat lit A B w sb bm v ks):∃a cap,v=.slice a ks.length cap:=by
 rcases T.row.2 with ⟨rfl,h⟩ | ⟨g,cap,cur,rfl,_⟩
 ·exact⟨none,0,by rw [h]⟩
 ·exact⟨_,cap,rfl⟩
theorem Tab.mono {A':Nat}(T:Tab P K E S size flat lit A B w sb bm v ks)(h:A'≤A):Tab P K E S size flat lit A' B w sb bm v ks:=
 ⟨T.blk,T.map,T.row,Nat.le_trans h T.sbA,Nat.le_trans h T.bmA,T.sbB,T.bmB,T.ne,T.top,T.nodup⟩
theorem Tab.drewN (T:Tab P K E S size flat lit A B w sb bm v ks)(n:Nat):Tab P K E S size flat lit A B (w.drewN n) sb bm v ks:=
 T.kept (Q:=fun _=>False) ⟨rfl,rfl,rfl,Nat.le_refl _,fun _ _ _=>rfl⟩ (fun _ _ h=>h)
end
section
variable {κ:Type} [DecidableEq κ]
theorem Touch.drewN (w:World)(n:Nat)(S:Nat→Prop):Touch w (w.drewN n) S:=⟨rfl,rfl,rfl,Nat.le_refl _,fun _ _ _=>rfl⟩
theorem Rd.touch {w w':World}{s:Value}{xs:List Value}{S:Nat→Prop}(h:Rd w s xs)(ht:Touch w w' S)(hd:∀b,s.ownBlock=some b→¬S b):Rd w' s xs:=by
 refine or_map h id ?_
 rintro⟨b,off,cap,rfl,hlt,hc⟩
 exact⟨b,off,cap,rfl,Nat.lt_of_lt_of_le hlt ht.size,fun i u hu=>(World.cell?_of_block (w:=w) (ht.block b hlt (hd b rfl))).trans (hc i u hu)⟩
theorem below_drawn {B:Nat}{a w:World}(h:Below B a w)(n:Nat):Below B a (w.drewN n):=h.trans ⟨rfl,rfl,rfl,Nat.le_refl _,fun _ _=>rfl⟩
end
theorem take_snoc {α:Type}{l:List α}{j:Nat}{x:α}(h:l[j]?=some x):l.take (j+1)=l.take j++[x]:=by
 obtain⟨hlt,e⟩:=List.getElem?_eq_some_iff.1 h
 rw [List.take_succ_eq_append_getElem hlt,e]
end
section
def lits64:DataW Unit→List Value
 | .agg l=>l.map fun | .lit (.int k n)=>Value.int k n | _=>undef
 | _=>[]
noncomputable def lowL:Nat:=(World.holding Tryd.prog default ⟨#[],#[],[]⟩).heap.size
noncomputable def putG (h:Array Obj)(g:Nat)(cs:Array Value):Array Obj:=h.modify g fun
 | .cells _ t frozen=>.cells cs t frozen
 | o=>o
noncomputable def laidWorld (os:Os):World:=
 let w0:=World.holding Tryd.prog os ⟨#[.cells #[.string ⟨#[105,110,118,97,108,105,100,32,115,121,110,116,97,120]⟩] 128,.cells #[.string ⟨#[118,97,108,117,101,32,111,117,116,32,111,102,32,114,97,110,103,101]⟩] 128],#[],[]⟩
 {w0 with heap:=putG (putG (putG (putG (putG w0.heap 1 #[.iface 126 (.pointer (some ⟨lowL,0,none⟩))]) 2 #[.iface 126 (.pointer (some ⟨lowL+1,0,none⟩))])
   3 (lits64 Rows.laid_internal_strconv_uint64pow10).toArray) 4 (lits64 Rows.laid_math_bits_deBruijn32tab).toArray) 5 (lits64 Rows.laid_math_bits_deBruijn64tab).toArray}
end
section
def blankB (b:UInt8):Bool:=b==32 || b==9 || b==13
def digitB (b:UInt8):Bool:=decide (48≤b)&&decide (b≤57)
def letterB (b:UInt8):Bool:=decide (97≤b)&&decide (b≤122) || (decide (65≤b)&&decide (b≤90) || b==95)
def partB (b:UInt8):Bool:=letterB b || (digitB b || b==46)
def signs:List UInt8:=[61,44,58,40,41,123,125,91,93]
def signB (b:UInt8):Bool:=decide (b∈signs)
structure Tok where
 kind:Nat
 text:List UInt8
 num:Nat
 line:Nat
 col:Nat
def numOf (l:List UInt8):Nat:=l.foldl (fun n b=>10*n+(b.toNat-48)) 0
abbrev Bad:=Nat × Nat × Nat
abbrev Went:=Nat × Nat × Nat × Option Tok
def stepL (l:List UInt8)(ln cl:Nat):Except Bad Went:=
 match l with
 | []=>.error (ln,cl,30)
 | c::r=>
  if c=10 then .ok (1,ln+1,1,none)
  else if blankB c=true then .ok (((c::r).takeWhile blankB).length,ln,cl+((c::r).takeWhile blankB).length,none)
  else if c=59 then .ok (((c::r).takeWhile (· != 10)).length,ln,cl+((c::r).takeWhile (· != 10)).length,none)
  else if letterB c=true then .ok (((c::r).takeWhile partB).length,ln,cl+((c::r).takeWhile partB).length,some ⟨1,(c::r).takeWhile partB,0,ln,cl⟩)
  else if digitB c=true then
   if (((c::r).dropWhile digitB).head?.any partB || decide (9<((c::r).takeWhile digitB).length) || (decide (1<((c::r).takeWhile digitB).length)&&decide (c=48)))=true then .error (ln,cl,31)
   else .ok (((c::r).takeWhile digitB).length,ln,cl+((c::r).takeWhile digitB).length,some ⟨2,(c::r).takeWhile digitB,numOf ((c::r).takeWhile digitB),ln,cl⟩)
  else if signB c=true then .ok (1,ln,cl+1,some ⟨3,[c],0,ln,cl⟩)
  else .error (ln,cl,30)
def add (t:Option Tok)(r:Except Bad (List Tok)):Except Bad (List Tok):=
 match r with
 | .error e=>.error e
 | .ok l=>.ok (t.toList++l)
def lexN:Nat→List UInt8→Nat→Nat→Except Bad (List Tok)
 | _,[],ln,cl=>.ok [⟨4,[],0,ln,cl⟩]
 | 0,_::_,ln,cl=>.error (ln,cl,0)
 | n+1,c::r,ln,cl=>
  match stepL (c::r) ln cl with
  | .error e=>.error e
  | .ok (k,ln',cl',t)=>add t (lexN n ((c::r).drop k) ln' cl')
def lex (l:List UInt8)(ln cl:Nat):Except Bad (List Tok):=lexN l.length l ln cl
theorem step_pos {l:List UInt8}{ln cl k ln' cl':Nat}{t:Option Tok}(h:stepL l ln cl=.ok (k,ln',cl',t)):0<k∧k≤l.length:=by
 have tw:∀(p:UInt8→Bool) (c:UInt8) (r:List UInt8),p c=true→0<((c::r).takeWhile p).length∧((c::r).takeWhile p).length≤(c::r).length:=by
  intro p c r hp
  refine⟨?_,List.Sublist.length_le (List.takeWhile_sublist p)⟩
  rw [List.takeWhile_cons,if_pos hp]
  simp
 unfold stepL at h
 split at h
 ·cases h
 ·rename_i c r
  split at h
  ·injection h with h;injection h with h;subst h;simp
  ·rename_i h10
   split at h
   ·rename_i hb
    injection h with h;injection h with h;subst h;exact tw _ _ _ hb
   ·split at h
    ·injection h with h;injection h with h;subst h;exact tw _ _ _ (by simpa using h10)
    ·split at h
     ·rename_i hl
      injection h with h;injection h with h;subst h;exact tw _ _ _ (by unfold partB;rw [hl];rfl)
     ·split at h
      ·rename_i hd
       split at h
       ·cases h
       ·injection h with h;injection h with h;subst h;exact tw _ _ _ hd
      ·split at h
       ·injection h with h;injection h with h;subst h;simp
       ·cases h
theorem lexN_fuel:∀(n m:Nat) (l:List UInt8) (ln cl:Nat),l.length≤n→l.length≤m→lexN n l ln cl=lexN m l ln cl
 | _,_,[],_,_,_,_=>by rw [lexN.eq_def,lexN.eq_def]
 | 0,_,_::_,_,_,h,_=>by simp at h
 | _+1,0,_::_,_,_,_,h=>by simp at h
 | n+1,m+1,c::r,ln,cl,h1,h2=>by
  rw [lexN,lexN]
  cases hs:stepL (c::r) ln cl with
  | error e=>rfl
  | ok x=>
   obtain⟨k,ln',cl',t⟩:=x
   have:=step_pos hs
   simp only [List.length_cons] at h1 h2
   show add t _=add t _
   rw [lexN_fuel n m _ ln' cl' (by rw [List.length_drop,List.length_cons];omega) (by rw [List.length_drop,List.length_cons];omega)]
theorem lex_nil (ln cl:Nat):lex [] ln cl=.ok [⟨4,[],0,ln,cl⟩]:=rfl
theorem lex_bad {l:List UInt8}{ln cl:Nat}{e:Bad}(h0:l≠[])(h:stepL l ln cl=.error e):lex l ln cl=.error e:=by
 unfold lex
 cases l with
 | nil=>exact absurd rfl h0
 | cons c r=>rw [List.length_cons,lexN,h]
theorem lex_went {l:List UInt8}{ln cl k ln' cl':Nat}{t:Option Tok}(h0:l≠[])(h:stepL l ln cl=.ok (k,ln',cl',t)):lex l ln cl=add t (lex (l.drop k) ln' cl'):=by
 have hp:=step_pos h
 unfold lex
 cases l with
 | nil=>exact absurd rfl h0
 | cons c r=>
  rw [List.length_cons,lexN,h]
  show add t _=add t _
  rw [lexN_fuel r.length ((c::r).drop k).length _ ln' cl' (by rw [List.length_drop,List.length_cons];omega) (Nat.le_refl _)]
def sofar (out:List Tok)(r:Except Bad (List Tok)):Except Bad (List Tok):=
 match r with
 | .error e=>.error e
 | .ok l=>.ok (out++l)
theorem sofar_add (out:List Tok)(t:Option Tok)(r:Except Bad (List Tok)):sofar out (add t r)=sofar (out++t.toList) r:=by
 cases r with
 | error e=>rfl
 | ok l=>simp [sofar,add]
theorem sofar_nil (r:Except Bad (List Tok)):sofar [] r=r:=by cases r<;>rfl
end
section
open Go.RowKit Go.Maps Go.WideShapes Go.ChangeShapes Go.ChangeAt Go.Deep
abbrev RdS (w:World)(v:Value)(ss:List ByteArray):Prop:=Rd w v (ss.map Value.string)
def RdE {α:Type}(c:Nat)(R:World→List Value→α→Prop)(w:World)(v:Value)(L:List α):Prop:=
 (L=[]∧(v=.slice none 0 0∨∃a k,v=.slice (some a) 0 k))∨∃b off cap,v=.slice (some ⟨b,off,none⟩) L.length cap∧b<w.heap.size∧
  ∀i d,L[i]?=some d→∃cs,R w cs d∧cs.length=c∧∀j u,cs[j]?=some u→w.cell? ⟨b,off+i*c+j,none⟩=some u
section
variable {α:Type} {c:Nat} {R:World→List Value→α→Prop} {w w':World} {v:Value} {L:List α}
theorem RdE.form (h:RdE c R w v L):∃a k,v=.slice a L.length k:=by
 rcases h with ⟨rfl,rfl | ⟨a,k,rfl⟩⟩ | ⟨b,off,cap,rfl,_⟩
 ·exact⟨none,0,rfl⟩
 ·exact⟨some a,k,rfl⟩
 ·exact⟨_,cap,rfl⟩
theorem RdE.below (hR:∀cs d,R w cs d→R w' cs d)(h:RdE c R w v L)(hb:Below w.heap.size w w'):RdE c R w' v L:=by
 refine or_map h id ?_
 rintro⟨b,off,cap,e,hlt,hc⟩
 refine⟨b,off,cap,e,Nat.lt_of_lt_of_le hlt hb.size,fun i d hi=>?_⟩
 obtain⟨cs,h1,h2,h3⟩:=hc i d hi
 exact⟨cs,hR cs d h1,h2,fun j u hj=>(hb.cell (p:=⟨b,off+i*c+j,none⟩) hlt).trans (h3 j u hj)⟩
theorem RdE.at (h:RdE c R w v L){i:Nat}{d:α}(hi:L[i]?=some d):∃b off cap cs,v=.slice (some ⟨b,off,none⟩) L.length cap∧b<w.heap.size∧R w cs d∧cs.length=c∧∀j u,cs[j]?=some u→w.cell? ⟨b,off+i*c+j,none⟩=some u:=by
 rcases h with ⟨rfl,_⟩ | ⟨b,off,cap,e,hlt,hc⟩
 ·simp at hi
 ·obtain⟨cs,h1,h2,h3⟩:=hc i d hi
  exact⟨b,off,cap,cs,e,hlt,h1,h2,h3⟩
theorem RdE.nil (w:World):RdE c R w (.slice none 0 0) []:=Or.inl ⟨rfl,Or.inl rfl⟩
end
structure Ins where
 op:Int
 dst:ByteArray
 a:ByteArray
 b:ByteArray
 n:Int
 fn:ByteArray
 args:List ByteArray
 labels:List ByteArray
def insV (d:Ins)(va vl:Value):List Value:=[.int .u8 d.op,.string d.dst,.string d.a,.string d.b,.int .i64 d.n,.string d.fn,va,vl]
def RdIns (w:World)(cs:List Value)(d:Ins):Prop:=∃va vl,cs=insV d va vl∧RdS w va d.args∧RdS w vl d.labels
structure Blk where
 label:ByteArray
 code:List Ins
def RdBlk (w:World)(cs:List Value)(d:Blk):Prop:=∃vc,cs=[.string d.label,vc]∧RdE 8 RdIns w vc d.code
structure Fun where
 name:ByteArray
 params:List ByteArray
 blocks:List Blk
def RdFun (w:World)(cs:List Value)(d:Fun):Prop:=∃vp vb,cs=[.string d.name,vp,vb]∧RdS w vp d.params∧RdE 2 RdBlk w vb d.blocks
section
variable {w w':World} {cs:List Value}
theorem RdIns.below {d:Ins}(h:RdIns w cs d)(hb:Below w.heap.size w w'):RdIns w' cs d:=by
 obtain⟨va,vl,e,h1,h2⟩:=h
 exact⟨va,vl,e,Rd.below h1 hb,Rd.below h2 hb⟩
theorem RdBlk.below {d:Blk}(h:RdBlk w cs d)(hb:Below w.heap.size w w'):RdBlk w' cs d:=by
 obtain⟨vc,e,h1⟩:=h
 exact⟨vc,e,RdE.below (fun _ _ h=>h.below hb) h1 hb⟩
theorem RdFun.below {d:Fun}(h:RdFun w cs d)(hb:Below w.heap.size w w'):RdFun w' cs d:=by
 obtain⟨vp,vb,e,h1,h2⟩:=h
 exact⟨vp,vb,e,Rd.below h1 hb,RdE.below (fun _ _ h=>h.below hb) h2 hb⟩
end
section
variable {H:Type} {enc:TypeId × Value→H} {P:Program} {w:World}
end
section
variable {H:Type} {enc:TypeId × Value→H} {w:World}
end
end
section
abbrev Flt:=Nat × Nat × Nat
def nmT (t:Tok):ByteArray:=⟨t.text.toArray⟩
def fltL:List Tok→Flt
 | []=>(0,0,0)
 | t::_=>(t.line,t.col,if t.kind=4 then 41 else 40)
def moreB:List Tok→Nat→Bool
 | [],_=>false
 | t::_,ln=>!(t.kind==4)&&t.line==ln
def signAt:List Tok→UInt8→Bool
 | [],_=>false
 | t::_,c=>t.kind==3&&t.text==[c]
def isB (l:List Tok)(ln:Nat)(c:UInt8):Bool:=moreB l ln&&signAt l c
def kindAt:List Tok→Nat→Bool
 | [],_=>false
 | t::_,k=>t.kind==k
def takeP (k:Nat)(l:List Tok)(ln:Nat):Except Flt (Tok × List Tok):=
 match l with
 | []=>.error (0,0,0)
 | t::r=>if (moreB (t::r) ln&&t.kind==k)=true then .ok (t,r) else .error (fltL (t::r))
def nameP (l:List Tok)(ln:Nat):Except Flt (ByteArray × List Tok):=
 match takeP 1 l ln with
 | .error e=>.error e
 | .ok (t,r)=>.ok (nmT t,r)
def signP (c:UInt8)(l:List Tok)(ln:Nat):Except Flt (List Tok):=if isB l ln c=true then .ok l.tail else .error (fltL l)
def lineAt:List Tok→Nat
 | []=>0
 | t::_=>t.line
def beginP (l:List Tok)(ln:Nat):Except Flt Nat:=if (!kindAt l 4&&lineAt l==ln)=true then .error (fltL l) else .ok (lineAt l)
def listP {α:Type}(one:α→List Tok→Nat→Except Flt (α × List Tok))(c:UInt8):Nat→α→List Tok→Nat→Except Flt (α × List Tok)
 | 0,_,_,_=>.error (0,0,0)
 | n+1,x,l,ln=>
  match one x l ln with
  | .error e=>.error e
  | .ok (x,l)=>
   if isB l ln c=true then
    match signP c l ln with
    | .error e=>.error e
    | .ok l=>.ok (x,l)
   else
    match signP 44 l ln with
    | .error e=>.error e
    | .ok l=>listP one c n x l ln
def oneName (x:List ByteArray)(l:List Tok)(ln:Nat):Except Flt (List ByteArray × List Tok):=
 match nameP l ln with
 | .error e=>.error e
 | .ok (s,l)=>.ok (x++[s],l)
def namesP (l:List Tok)(ln:Nat):Except Flt (List ByteArray × List Tok):=
 match signP 40 l ln with
 | .error e=>.error e
 | .ok l=>
  if isB l ln 41=true then
   match signP 41 l ln with
   | .error e=>.error e
   | .ok l=>.ok ([],l)
  else listP oneName 41 (l.length+1) [] l ln
inductive Rst
 | fields | nothing | fn | operand | field | phi | call | icall | store | branch | label | result
def fieldsP (x:Ins)(l:List Tok)(ln:Nat):Except Flt (Ins × List Tok):=
 match takeP 2 l ln with
 | .error e=>.error e
 | .ok (t,l)=>.ok ({x with n:=t.num},l)
def fnP (x:Ins)(l:List Tok)(ln:Nat):Except Flt (Ins × List Tok):=
 match nameP l ln with
 | .error e=>.error e
 | .ok (s,l)=>.ok ({x with fn:=s},l)
def operandP (x:Ins)(l:List Tok)(ln:Nat):Except Flt (Ins × List Tok):=
 match nameP l ln with
 | .error e=>.error e
 | .ok (s,l)=>.ok ({x with a:=s},l)
def labelP (x:Ins)(l:List Tok)(ln:Nat):Except Flt (Ins × List Tok):=
 match nameP l ln with
 | .error e=>.error e
 | .ok (s,l)=>.ok ({x with labels:=x.labels++[s]},l)
def argsP (x:Ins)(l:List Tok)(ln:Nat):Except Flt (Ins × List Tok):=
 match namesP l ln with
 | .error e=>.error e
 | .ok (ss,l)=>.ok ({x with args:=ss},l)
def thenP (f g:Ins→List Tok→Nat→Except Flt (Ins × List Tok))(x:Ins)(l:List Tok)(ln:Nat):Except Flt (Ins × List Tok):=
 match f x l ln with
 | .error e=>.error e
 | .ok (x,l)=>g x l ln
def skipP (c:UInt8)(x:Ins)(l:List Tok)(ln:Nat):Except Flt (Ins × List Tok):=
 match signP c l ln with
 | .error e=>.error e
 | .ok l=>.ok (x,l)
def valP (x:Ins)(l:List Tok)(ln:Nat):Except Flt (Ins × List Tok):=
 match nameP l ln with
 | .error e=>.error e
 | .ok (s,l)=>.ok ({x with b:=s},l)
def argP (x:Ins)(l:List Tok)(ln:Nat):Except Flt (Ins × List Tok):=
 match nameP l ln with
 | .error e=>.error e
 | .ok (s,l)=>.ok ({x with args:=x.args++[s]},l)
def pairP:Ins→List Tok→Nat→Except Flt (Ins × List Tok):=thenP labelP (thenP (skipP 58) argP)
def phiP (x:Ins)(l:List Tok)(ln:Nat):Except Flt (Ins × List Tok):=
 match signP 91 l ln with
 | .error e=>.error e
 | .ok l=>listP pairP 93 (l.length+1) x l ln
def storeP:Ins→List Tok→Nat→Except Flt (Ins × List Tok):=thenP operandP (thenP (skipP 44) valP)
def resultP (x:Ins)(l:List Tok)(ln:Nat):Except Flt (Ins × List Tok):=if moreB l ln=true then operandP x l ln else .ok (x,l)
def restP:Rst→Ins→List Tok→Nat→Except Flt (Ins × List Tok)
 | .fields=>fieldsP
 | .nothing=>fun x l _=>.ok (x,l)
 | .fn=>fnP
 | .operand=>operandP
 | .field=>thenP operandP fieldsP
 | .phi=>phiP
 | .call=>thenP fnP argsP
 | .icall=>thenP operandP argsP
 | .store=>storeP
 | .branch=>thenP labelP labelP
 | .label=>labelP
 | .result=>resultP
def valueF (s:List UInt8):Option (Int × Rst):=
 if s=[97,108,108,111,99,97] then some (1,.fields)
 else if s=[109,97,108,108,111,99] then some (2,.fields)
 else if s=[110,117,108,108] then some (3,.nothing)
 else if s=[97,100,100,114] then some (4,.fn)
 else if s=[99,111,112,121] then some (5,.operand)
 else if s=[108,111,97,100] then some (8,.operand)
 else if s=[102,105,101,108,100] then some (7,.field)
 else if s=[112,104,105] then some (6,.phi)
 else if s=[99,97,108,108] then some (10,.call)
 else if s=[105,99,97,108,108] then some (11,.icall)
 else none
def bareF (s:List UInt8):Option (Int × Rst):=
 if s=[99,97,108,108] then some (10,.call)
 else if s=[105,99,97,108,108] then some (11,.icall)
 else if s=[115,116,111,114,101] then some (9,.store)
 else if s=[98,114] then some (12,.branch)
 else if s=[103,111,116,111] then some (13,.label)
 else if s=[114,101,116] then some (14,.result)
 else none
def insOf (op:Int)(dst:ByteArray):Ins:=⟨op,dst,⟨#[]⟩,⟨#[]⟩,0,⟨#[]⟩,[],[]⟩
def instrP (how:Int × Rst)(dst:ByteArray)(l:List Tok)(ln:Nat):Except Flt (Ins × List Tok):=restP how.2 (insOf how.1 dst) l ln
def addB (d:Fun)(s:ByteArray):Fun:={d with blocks:=d.blocks++[⟨s,[]⟩]}
def addCode:List Blk→Ins→List Blk
 | [],_=>[]
 | [b],x=>[{b with code:=b.code++[x]}]
 | b::bs,x=>b::addCode bs x
def addI (d:Fun)(x:Ins):Fun:={d with blocks:=addCode d.blocks x}
def headT:List Tok→List UInt8
 | []=>[]
 | t::_=>t.text
def insideP (d:Fun)(l:List Tok)(ln:Nat):Except Flt (Fun × List Tok):=
 match nameP l ln with
 | .error e=>.error e
 | .ok (s,l)=>
  if (d.blocks.isEmpty || isB l ln 58)=true then
   match signP 58 l ln with
   | .error e=>.error e
   | .ok l=>.ok (addB d s,l)
  else
   match (if isB l ln 61=true then none else bareF s.data.toList) with
   | some how=>
    match instrP how ⟨#[]⟩ l ln with
    | .error e=>.error e
    | .ok (x,l)=>.ok (addI d x,l)
   | none=>
    match signP 61 l ln with
    | .error e=>.error e
    | .ok l=>
     match valueF (headT l) with
     | none=>.error (fltL l)
     | some how=>
      match nameP l ln with
      | .error e=>.error e
      | .ok (_,l)=>
       match instrP how s l ln with
       | .error e=>.error e
       | .ok (x,l)=>.ok (addI d x,l)
def bodyP:Nat→Fun→List Tok→Nat→Except Flt (Fun × List Tok × Nat)
 | 0,_,_,_=>.error (0,0,0)
 | n+1,d,l,ln=>
  if isB l ln 125=true then
   match signP 125 l ln with
   | .error e=>.error e
   | .ok l=>.ok (d,l,ln)
  else
   match insideP d l ln with
   | .error e=>.error e
   | .ok (d,l)=>
    match beginP l ln with
    | .error e=>.error e
    | .ok ln=>bodyP n d l ln
def funcT:List UInt8:=[102,117,110,99]
def funcP (l:List Tok)(ln:Nat):Except Flt (Fun × List Tok × Nat):=
 if headT l=funcT then
  match nameP l ln with
  | .error e=>.error e
  | .ok (_,l)=>
   match nameP l ln with
   | .error e=>.error e
   | .ok (s,l)=>
    match namesP l ln with
    | .error e=>.error e
    | .ok (ps,l)=>
     match signP 123 l ln with
     | .error e=>.error e
     | .ok l=>
      match beginP l ln with
      | .error e=>.error e
      | .ok ln=>bodyP (l.length+1) ⟨s,ps,[]⟩ l ln
 else .error (fltL l)
def progP:Nat→List Fun→List Tok→Nat→Except Flt (List Fun)
 | 0,_,_,_=>.error (0,0,0)
 | n+1,acc,l,ln=>
  if kindAt l 4=true then .ok acc
  else
   match funcP l ln with
   | .error e=>.error e
   | .ok (d,l,ln)=>
    match beginP l ln with
    | .error e=>.error e
    | .ok ln=>progP n (acc++[d]) l ln
def parseT (l:List Tok):Except Flt (List Fun):=
 match beginP l 0 with
 | .error e=>.error e
 | .ok ln=>progP (l.length+1) [] l ln
def parseL (s:List UInt8):Except Flt (List Fun):=
 match lex s 1 1 with
 | .error e=>.error e
 | .ok l=>parseT l
theorem take_len {k:Nat}{l r:List Tok}{ln:Nat}{t:Tok}(h:takeP k l ln=.ok (t,r)):l=t::r∧t.kind=k∧t.line=ln∧t.kind≠4:=by
 unfold takeP at h
 split at h
 ·cases h
 ·split at h
  ·rename_i hm
   simp only [Except.ok.injEq,Prod.mk.injEq] at h
   obtain⟨rfl,rfl⟩:=h
   simp only [moreB,Bool.and_eq_true,Bool.not_eq_true',beq_eq_false_iff_ne,beq_iff_eq] at hm
   exact⟨rfl,hm.2,hm.1.2,hm.1.1⟩
  ·cases h
theorem name_len {l r:List Tok}{ln:Nat}{s:ByteArray}(h:nameP l ln=.ok (s,r)):∃t,l=t::r∧s=nmT t∧t.kind=1∧t.line=ln:=by
 unfold nameP at h
 split at h
 ·cases h
 ·rename_i t r' h1
  simp only [Except.ok.injEq,Prod.mk.injEq] at h
  obtain⟨rfl,rfl⟩:=h
  obtain⟨e1,e2,e3,-⟩:=take_len h1
  exact⟨t,e1,rfl,e2,e3⟩
theorem sign_len {c:UInt8}{l r:List Tok}{ln:Nat}(h:signP c l ln=.ok r):∃t,l=t::r∧t.kind=3∧t.text=[c]∧t.line=ln:=by
 unfold signP at h
 split at h
 ·rename_i hm
  simp only [Except.ok.injEq] at h
  cases l with
  | nil=>simp [isB,moreB] at hm
  | cons t r'=>
   simp only [List.tail_cons] at h
   subst h
   simp only [isB,moreB,signAt,Bool.and_eq_true,Bool.not_eq_true',beq_eq_false_iff_ne,beq_iff_eq] at hm
   exact⟨t,rfl,hm.2.1,hm.2.2,hm.1.2⟩
 ·cases h
end
section
open Go.RowKit
theorem eqB (b c:UInt8):((b.toNat:Int)==(c.toNat:Int))=(b==c):=by
 rw [Bool.eq_iff_iff]
 simp
 constructor
 ·intro h
  exact UInt8.toNat_inj.1 (by omega)
 ·rintro rfl
  rfl
theorem geB (b c:UInt8):decide ((b.toNat:Int)≥(c.toNat:Int))=decide (c≤b):=by
 rw [Bool.eq_iff_iff]
 simp [UInt8.le_iff_toNat_le]
theorem leB (b c:UInt8):decide ((b.toNat:Int)≤(c.toNat:Int))=decide (b≤c):=by
 rw [Bool.eq_iff_iff]
 simp [UInt8.le_iff_toNat_le]
theorem blank_any (b:UInt8)(w:World):Calls Tryd.prog 52 #[.int .u8 b.toNat] w fun e w'=>e=.returned (.bool (blankB b))∧w'=w:=by
 have e1:((b.toNat:Int)==32)=(b==32):=eqB b 32
 have e2:((b.toNat:Int)==9)=(b==9):=eqB b 9
 have e3:((b.toNat:Int)==13)=(b==13):=eqB b 13
 unfold blankB
 generalize (b==32)=q1 at *
 generalize (b==9)=q2 at *
 generalize (b==13)=q3 at *
 cases q1<;>cases q2<;>cases q3<;>(go_enter Tryd.func52,Tryd.ntmps52;go_wp2;go_ret;exact⟨rfl,rfl⟩)
theorem digit_any (b:UInt8)(w:World):Calls Tryd.prog 58 #[.int .u8 b.toNat] w fun e w'=>e=.returned (.bool (digitB b))∧w'=w:=by
 have e1:decide ((b.toNat:Int)≥48)=decide (48≤b):=geB b 48
 have e2:decide ((b.toNat:Int)≤57)=decide (b≤57):=leB b 57
 unfold digitB
 generalize decide (48≤b)=q1 at *
 generalize decide (b≤57)=q2 at *
 cases q1<;>cases q2<;>(go_enter Tryd.func58,Tryd.ntmps58;go_wp2;go_ret;exact⟨rfl,rfl⟩)
theorem letter_any (b:UInt8)(w:World):Calls Tryd.prog 55 #[.int .u8 b.toNat] w fun e w'=>e=.returned (.bool (letterB b))∧w'=w:=by
 have e1:decide ((b.toNat:Int)≥97)=decide (97≤b):=geB b 97
 have e2:decide ((b.toNat:Int)≤122)=decide (b≤122):=leB b 122
 have e3:decide ((b.toNat:Int)≥65)=decide (65≤b):=geB b 65
 have e4:decide ((b.toNat:Int)≤90)=decide (b≤90):=leB b 90
 have e5:((b.toNat:Int)==95)=(b==95):=eqB b 95
 unfold letterB
 generalize decide (97≤b)=q1 at *
 generalize decide (b≤122)=q2 at *
 generalize decide (65≤b)=q3 at *
 generalize decide (b≤90)=q4 at *
 generalize (b==95)=q5 at *
 cases q1<;>cases q2<;>cases q3<;>cases q4<;>cases q5<;>(go_enter Tryd.func55,Tryd.ntmps55;go_wp2;go_ret;exact⟨rfl,rfl⟩)
theorem part_any (b:UInt8)(w:World):Calls Tryd.prog 57 #[.int .u8 b.toNat] w fun e w'=>e=.returned (.bool (partB b))∧w'=w:=by
 have e1:((b.toNat:Int)==46)=(b==46):=eqB b 46
 have c1:=Lib.hid (letter_any b w)
 have c2:=Lib.hid (digit_any b w)
 unfold partB
 generalize (b==46)=q1 at *
 generalize letterB b=q2 at *
 generalize digitB b=q3 at *
 cases q1<;>cases q2<;>cases q3<;>(go_enter Tryd.func57,Tryd.ntmps57;go_wp2_with (first | (go_at_call 55;refine c1.out.mono ?_;rintro e w' ⟨rfl,hw⟩;obtain rfl:=hw.symm) | (go_at_call 58;refine c2.out.mono ?_;rintro e w' ⟨rfl,hw⟩;obtain rfl:=hw.symm));go_ret;exact⟨rfl,rfl⟩)
def lineB (b:UInt8):Bool:=b != 10
theorem line_any (b:UInt8)(w:World):Calls Tryd.prog 54 #[.int .u8 b.toNat] w fun e w'=>e=.returned (.bool (lineB b))∧w'=w:=by
 have e1:((b.toNat:Int) != 10)=(b != 10):=by unfold bne;rw [show ((b.toNat:Int)==10)=(b==10) from eqB b 10]
 unfold lineB
 generalize (b != 10)=q1 at *
 cases q1<;>(go_enter Tryd.func54,Tryd.ntmps54;go_wp2;go_ret;exact⟨rfl,rfl⟩)
end
end Go.Proofs.YtgcanabckogmmaaDoor
