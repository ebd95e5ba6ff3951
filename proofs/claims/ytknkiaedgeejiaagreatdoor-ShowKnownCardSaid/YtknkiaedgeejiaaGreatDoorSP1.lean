/- Law, TabD, Tab, Read, LaidT, ReadE, Api, NIs, StrK, NAll, NTwice, NShape. -/
import Derived.Test.YtknkiaedgeejiaaGreatDoorRows
import Derived.ProofKit
import Derived.SizedLaws
import Derived.Below
import Derived.Maps.Views
import Derived.Maps.Own
import Derived.Maps.OwnSet
import Derived.Maps.AppendAt
import Derived.Laws.AppendOwnNone
import Derived.WalkKit
import Derived.Lib.Hide
import Derived.Defers
import Derived.Deep.Draws
import Derived.Recover
import Derived.Deep.Strs
import Derived.Deep.Slices
import Derived.Lib.LaidTab
import Derived.DataReads
import Derived.ChangeSame
import Derived.Deep.Fields
import Derived.WalkLawsBesides
import Derived.Deep.QuietTactic
import Derived.BigQuiet
import Derived.Lib.SlBytesConst
import Derived.Deep.CutRange
import Derived.Deep.CutBlock
import Derived.Outline
import Derived.Lib.Bytes
import Derived.Deep.LoopGhost
import Derived.Maps.RangeWalk
namespace Go.Proofs.YtknkiaedgeejiaaGreatDoor
set_option linter.unusedVariables false
set_option linter.unusedSimpArgs false
section
open Go.RowKit Go.WideShapes Go.ChangeShapes Go.ChangeAt
section
variable {H:Type} {enc:TypeId × Value→H} {P:Program}
theorem all_stay {W W':World}(hl:laidOutB P=true)(hb:Below W.heap.size W W'):∀{ts:List TypeId} {vs:List Value} {ds:List (DataW H)} {ps:List MemPlace},
  (∀t∈ts,P.readableRec t=true∧t<P.types.size)→DataW.TrodAll enc P W 0 (fun _=>true) true ts vs ds ps→(∀x∈ps,x.block<W.heap.size)→
  DataW.TrodAll enc P W' 0 (fun b=>decide (b<W.heap.size)) true ts vs ds ps
 | [],vs,ds,ps,_,h,_=>by
  obtain⟨rfl,rfl,rfl⟩:=trodAll_nil h
  rfl
 | t::ts,vs,ds,ps,hts,h,hlt=>by
  obtain⟨v,vs',d,ds',p,q,rfl,rfl,rfl,h1,h2⟩:=trodAll_cons h
  have g:=hts t (by simp)
  exact⟨p,q,Below.trod hl g.1 g.2 h1 hb (fun x hx=>hlt x (by simp [hx])),all_stay hl hb (fun u hu=>hts u (by simp [hu])) h2 (fun x hx=>hlt x (by simp [hx])),rfl⟩
theorem law_post {f:Func}{s:ChangeSpec}{W W':World}{args:Array Value}{ds gs:List (DataW H)}{before:List MemPlace}{tb:TypeId}{apart:Bool}
  (hl:laidOutB P=true) (hts:∀t∈f.params.toList,P.readableRec t=true∧t<P.types.size) (hrt:f.resultTypes=#[tb]) (htb:P.underlying tb=some .bool) (hvars:s.vars=[])
  (hspec:∀ds:List (DataW H),ds.length=f.params.toList.length→s.fn H ds={results:=[.lit (.bool true)],args:=ds})
  (hW:DataW.Whole enc P f.params.toList s.vars apart W args.toList ds gs before) (hb:Below W.heap.size W W'):
  s.post enc P f apart true false false W args (.bool true) W':=by
 have hlt:∀p∈before,p.block<W.heap.size:=fun p hp=>hW.lt p hp
 have hW0:=hW
 obtain⟨p,q,hA,hV,rfl,_,_⟩:=hW0
 rw [hvars] at hV
 obtain⟨rfl,rfl⟩:=trodVars_none hV
 have hlen:∀{ts:List TypeId} {vs:List Value} {ds:List (DataW H)} {ps:List MemPlace},DataW.TrodAll enc P W 0 (fun _=>true) true ts vs ds ps→ds.length=ts.length:=by
  intro ts
  induction ts with
  | nil=>intro vs ds ps h;obtain⟨_,rfl,_⟩:=trodAll_nil h;rfl
  | cons t ts ih=>intro vs ds ps h;obtain⟨_,_,_,_,_,_,_,rfl,_,_,h2⟩:=trodAll_cons h;simp [ih h2]
 have hs:=hspec ds (hlen hA)
 refine⟨ds,[],p++[],[],p,[],hW,?_,?_,?_,World.keptBut_mono (fun x hx=>⟨hx,Or.inr (Or.inl (by simpa using hx))⟩) (hb.frame (·∈p++[])),fun h=>by cases h⟩
 ·rw [List.append_nil,hs,hrt]
  exact trodAll_mk1 (shut_bool htb _)
 ·rw [List.append_nil,hs]
  exact all_stay hl hb hts hA (fun x hx=>hlt x (by simp [hx]))
 ·rw [List.append_nil,hs,hvars]
  rfl
end
end
section
open Go.Maps
section
variable {H:Type}
def num (i:Nat):DataW H:=.lit (.int .i64 i)
def tabD (ls:List Lit):DataW H:=(ls.foldl (fun (m:DataW H × Nat) x=>(m.1.put x (num m.2),m.2+1)) (.map [],0)).1
theorem tab_count (ls:List Lit):∀(m:DataW H) (n:Nat),(ls.foldl (fun (m:DataW H × Nat) x=>(m.1.put x (num m.2),m.2+1)) (m,n)).2=n+ls.length:=by
 induction ls with
 | nil=>intro m n;rfl
 | cons x r ih=>intro m n;simp only [List.foldl_cons,ih,List.length_cons];omega
theorem tabD_snoc (ls:List Lit)(x:Lit):tabD (H:=H) (ls++[x])=(tabD ls).put x (num ls.length):=by
 unfold tabD
 rw [List.foldl_append,List.foldl_cons,List.foldl_nil,tab_count,Nat.zero_add]
end
end
section
open Go.RowKit Go.Maps
theorem or_map {a b c d:Prop}(h:a∨b)(f:a→c)(g:b→d):c∨d:=h.elim (fun x=>Or.inl (f x)) (fun x=>Or.inr (g x))
structure Touch (w w':World) (S:Nat→Prop):Prop where
 os:w'.os=w.os
 tape:w'.tape=w.tape
 output:w'.output=w.output
 size:w.heap.size≤w'.heap.size
 block:∀k,k<w.heap.size→¬S k→w'.heap[k]?=w.heap[k]?
theorem Touch.refl (w:World)(S:Nat→Prop):Touch w w S:=⟨rfl,rfl,rfl,Nat.le_refl _,fun _ _ _=>rfl⟩
theorem Touch.mono {w w':World}{S S':Nat→Prop}(h:Touch w w' S)(hs:∀k,k<w.heap.size→S k→S' k):Touch w w' S':=⟨h.os,h.tape,h.output,h.size,fun k hk hn=>h.block k hk (fun s=>hn (hs k hk s))⟩
theorem Touch.trans {a b c:World}{S:Nat→Prop}(h:Touch a b S)(g:Touch b c S):Touch a c S:=
 ⟨g.os.trans h.os,g.tape.trans h.tape,g.output.trans h.output,Nat.le_trans h.size g.size,fun k hk hn=>(g.block k (Nat.lt_of_lt_of_le hk h.size) hn).trans (h.block k hk hn)⟩
theorem Touch.below {w w':World}{S:Nat→Prop}(h:Touch w w' S){B:Nat}(hB:B≤w.heap.size)(hs:∀k,k<B→¬S k):Below B w w':=⟨h.os,h.tape,h.output,h.size,fun k hk=>h.block k (Nat.lt_of_lt_of_le hk hB) (hs k hk)⟩
theorem Touch.of_below {w w':World}(h:Below w.heap.size w w')(S:Nat→Prop):Touch w w' S:=⟨h.os,h.tape,h.output,h.size,fun k hk _=>h.block k hk⟩
theorem Touch.of_grown {w w':World}{row:Option Nat}(h:w.grownBy w' row){S:Nat→Prop}(hs:∀k,row=some k→S k):Touch w w' S:=
 ⟨h.os,h.tape,h.output,h.size,fun k hk hn=>h.block k hk (fun e=>hn (hs k e.symm))⟩
theorem Touch.alloc {w w':World}{S:Nat→Prop}(h:Touch w w' S)(o:Obj):Touch w (w'.alloc o) S:=
 ⟨h.os,h.tape,h.output,Nat.le_trans h.size (by simp),fun k hk hn=>(Below.heap_alloc w' o k (Nat.lt_of_lt_of_le hk h.size)).trans (h.block k hk hn)⟩
theorem Touch.setCell {w w':World}{S:Nat→Prop}(h:Touch w w' S){a:Addr}(ha:a.block<w.heap.size→S a.block)(u:Value):Touch w (w'.setCell a u) S:=
 ⟨h.os,h.tape,h.output,by simpa using h.size,fun k hk hn=>(Below.heap_setCell w' a u k (fun e=>hn (by subst e;exact ha hk))).trans (h.block k hk hn)⟩
theorem Touch.drew {w w':World}{S:Nat→Prop}(h:Touch w w' S):Touch w w'.drew S:=⟨h.os,h.tape,h.output,h.size,h.block⟩
theorem blk_set {w:World}{b i:Nat}{cs:Array Value}{S:TypeId}{fr:Nat × Nat}(v:Value)(h:w.heap[b]?=some (.cells cs S fr)):
  (w.setCell ⟨b,i,none⟩ v).heap[b]?=some (.cells (cs.setIfInBounds i v) S fr):=by
 simp [World.setCell,Array.getElem?_modify,h]
theorem blk_cell {w:World}{b:Nat}{cs:Array Value}{S:TypeId}{fr:Nat × Nat}(h:w.heap[b]?=some (.cells cs S fr))(i:Nat):w.cell? ⟨b,i,none⟩=cs[i]?:=by
 simp [World.cell?,h]
instance decBytes:DecidableEq ByteArray:=fun a b=>decidable_of_iff (a.data=b.data) ⟨fun h=>ByteArray.ext h,fun h=>h ▸ rfl⟩
theorem add0 (g i:Nat):(⟨g,0,none⟩:Addr).add i=⟨g,i,none⟩:=by
 unfold Addr.add
 split<;>simp_all
def Rd (w:World)(s:Value)(xs:List Value):Prop:=
 (xs=[]∧(s=.slice none 0 0∨∃a c,s=.slice (some a) 0 c))∨∃b off cap,s=.slice (some ⟨b,off,none⟩) xs.length cap∧b<w.heap.size∧∀i u,xs[i]?=some u→w.cell? ⟨b,off+i,none⟩=some u
theorem Rd.form {w:World}{s:Value}{xs:List Value}(h:Rd w s xs):∃a c,s=.slice a xs.length c:=by
 rcases h with ⟨rfl,rfl | ⟨a,c,rfl⟩⟩ | ⟨b,off,cap,rfl,_⟩
 ·exact⟨none,0,rfl⟩
 ·exact⟨some a,c,rfl⟩
 ·exact⟨_,cap,rfl⟩
theorem Rd.below {w w':World}{s:Value}{xs:List Value}(h:Rd w s xs)(hb:Below w.heap.size w w'):Rd w' s xs:=by
 refine or_map h id ?_
 rintro⟨b,off,cap,e,hlt,hc⟩
 exact⟨b,off,cap,e,Nat.lt_of_lt_of_le hlt hb.size,fun i u hu=>(hb.cell (p:=⟨b,off+i,none⟩) hlt).trans (hc i u hu)⟩
theorem Rd.at {w:World}{s:Value}{xs:List Value}(h:Rd w s xs){i:Nat}{u:Value}(hi:xs[i]?=some u):∃b off cap,s=.slice (some ⟨b,off,none⟩) xs.length cap∧b<w.heap.size∧w.cell? ⟨b,off+i,none⟩=some u:=by
 rcases h with ⟨rfl,_⟩ | ⟨b,off,cap,e,hlt,hc⟩
 ·simp at hi
 ·exact⟨b,off,cap,e,hlt,hc i u hi⟩
theorem ownsRow_touch {w w':World}{base:Nat}{e:TypeId}{size:Nat}{v:Value}{n:Nat}{xs:List Value}{S:Nat→Prop}(h:w.ownsRow base e size v n xs)(ht:Touch w w' S)(hd:∀b,v.ownBlock=some b→¬S b):w'.ownsRow base e size v n xs:=by
 obtain⟨h1,h2⟩:=h
 refine⟨h1,or_map h2 id ?_⟩
 rintro⟨g,cap,cur,rfl,h3,h4,h5⟩
 exact⟨g,cap,cur,rfl,h3,(ht.block g (Array.getElem?_eq_some_iff.1 h4).1 (hd g rfl)).trans h4,h5⟩
theorem wpList_append_rd {P:Program}{ops:Array Oper}{rest:List Oper}{o:Oper}{a:Act}{Q:Exit→Act→World→Prop}(w:World)(hgd:o.guard=none)(s x:Operand)(t:TypeId)
  (ho:o.op=.call {callee:=.builtin .append,args:=#[s,x],argTypes:=#[t,t]})
  (base:Nat) (e:TypeId) (i:TypeInfo) (z:Value) (bytes:Nat) (ht:P.underlying t=some (.slice e)) (hi:P.info? e=some i) (hz:i.zero=some z)
  (hsize:i.size=1) (hby:i.bytes=bytes) (hzs:z.cells.size=1)
  (v:Value) (n:Nat) (xs:List Value) (hs:a.eval s=v) (hown:w.ownsRow base e 1 v n xs)
  (sv:Value) (news:List Value) (hx:a.eval x=sv) (hrd:Rd w sv news) (h1:∀u∈news,u.oneCell'=true)
  (h63:n+news.length≤maxLen) (hbytes:(n+news.length)*bytes≤140737488355328) (hbase:base≤w.heap.size)
  (h:∀v' w',w'.ownsRow base e 1 v' (n+news.length) (xs++news)→w.grownBy w' v.ownBlock→(v'.ownBlock=v.ownBlock∨v'.ownBlock=some w.heap.size)→wpList P ops Q rest (a.put o.dst v') w'):
  wpList P ops Q (o::rest) a w:=by
 rcases hrd with ⟨rfl,rfl | ⟨ad,c,rfl⟩⟩ | ⟨b,off,cap,rfl,hlt,hc⟩
 ·exact wpList_append_own_none (w:=w) hgd s x t ho base e i 1 ht hi v n xs hs hown hx (h v w (by simpa using hown) (World.grownBy.refl w _) (Or.inl rfl))
 ·exact wpList_append_own_at w hgd s x t ho base e i z 1 bytes ht hi hz hsize hby hzs (by decide) v n xs hs hown ad 0 c [] hx rfl (by simp) h1 h63 hbytes hbase (fun v' w' h2 h3 _ h4=>h v' w' h2 h3 h4)
 ·exact wpList_append_own_at w hgd s x t ho base e i z 1 bytes ht hi hz hsize hby hzs (by decide) v n xs hs hown ⟨b,off,none⟩ news.length cap news hx (by simp) (fun j u hj=>by
   have e2:(⟨b,off,none⟩:Addr).add j=⟨b,off+j,none⟩:=by
    unfold Addr.add
    split<;>simp_all
   rw [e2];exact hc j u hj) h1 h63 hbytes hbase (fun v' w' h2 h3 _ h4=>h v' w' h2 h3 h4)
structure Tab {κ:Type} (P:Program) (K E S:TypeId) (size:Nat) (flat:κ→List Value) (lit:κ→Lit) (A B:Nat) (w:World) (sb bm:Nat) (v:Value) (ks:List κ):Prop where
 blk:w.heap[sb]?=some (.cells #[.map (some bm),v] S (0,0))
 map:w.ownsMap P K (plainElem (H:=Unit) P E) bm ks.length (tabD (ks.map lit))
 row:w.ownsRow B K size v ks.length (ks.flatMap flat)
 sbA:A≤sb
 bmA:A≤bm
 sbB:sb<B
 bmB:bm<B
 ne:sb≠bm
 top:B≤w.heap.size
 nodup:(ks.map lit).Nodup
def Own (sb bm:Nat)(v:Value)(k:Nat):Prop:=k=sb∨k=bm∨v.ownBlock=some k
section
variable {κ:Type} {P:Program} {K E S:TypeId} {size:Nat} {flat:κ→List Value} {lit:κ→Lit} {A B:Nat} {w:World} {sb bm:Nat} {v:Value} {ks:List κ}
theorem Tab.c0 (T:Tab P K E S size flat lit A B w sb bm v ks):w.cell? ⟨sb,0,none⟩=some (.map (some bm)):=by simp [World.cell?,T.blk]
theorem Tab.c1 (T:Tab P K E S size flat lit A B w sb bm v ks):w.cell? ⟨sb,1,none⟩=some v:=by simp [World.cell?,T.blk]
theorem Tab.f0 (T:Tab P K E S size flat lit A B w sb bm v ks)(i:Nat):w.frozen? ⟨sb,i,none⟩=false:=by simp [World.frozen?,T.blk]
theorem Tab.lt (T:Tab P K E S size flat lit A B w sb bm v ks):∀k,Own sb bm v k→k<w.heap.size:=by
 rintro k (rfl | rfl | h)
 ·exact (Array.getElem?_eq_some_iff.1 T.blk).1
 ·exact T.map.lt
 ·exact (T.row.lt k h).2
theorem Tab.low (T:Tab P K E S size flat lit A B w sb bm v ks):∀k,Own sb bm v k→A≤k:=by
 rintro k (rfl | rfl | h)
 ·exact T.sbA
 ·exact T.bmA
 ·exact Nat.le_trans T.sbA (Nat.le_trans (Nat.le_of_lt T.sbB) (T.row.lt k h).1)
theorem Tab.kept {w':World}{Q:Nat→Prop}(T:Tab P K E S size flat lit A B w sb bm v ks)(h:Touch w w' Q)(hd:∀k,Own sb bm v k→¬Q k):Tab P K E S size flat lit A B w' sb bm v ks:=by
 have hb:∀k,Own sb bm v k→w'.heap[k]?=w.heap[k]?:=fun k hk=>h.block k (T.lt k hk) (hd k hk)
 refine⟨(hb sb (Or.inl rfl)).trans T.blk,?_,?_,T.sbA,T.bmA,T.sbB,T.bmB,T.ne,Nat.le_trans T.top h.size,T.nodup⟩
 ·obtain⟨es,clock,h1,h2⟩:=T.map
  exact⟨es,clock,(hb bm (Or.inr (Or.inl rfl))).trans h1,h2⟩
 ·obtain⟨h1,h2⟩:=T.row
  refine⟨h1,or_map h2 id ?_⟩
  rintro⟨g,cap,cur,rfl,h3,h4,h5⟩
  exact⟨g,cap,cur,rfl,h3,(hb g (Or.inr (Or.inr rfl))).trans h4,h5⟩
theorem Tab.form (T:Tab P K E S size flat lit A B w sb bm v ks):∃a cap,v=.slice a ks.length cap:=by
 rcases T.row.2 with ⟨rfl,h⟩ | ⟨g,cap,cur,rfl,_⟩
 ·exact⟨none,0,by rw [h]⟩
 ·exact⟨_,cap,rfl⟩
theorem Tab.more {w':World}{v':Value}{k:κ}(T:Tab P K E S size flat lit A B w sb bm v ks)(hnew:lit k ∉ ks.map lit)
  (hblk:w'.heap[sb]?=some (.cells #[.map (some bm),v'] S (0,0)))
  (hmap:w'.ownsMap P K (plainElem (H:=Unit) P E) bm (ks.length+1) ((tabD (ks.map lit)).put (lit k) (num ks.length)))
  (hrow:w'.ownsRow B K size v' (ks.length+1) (ks.flatMap flat++flat k)) (hs:w.heap.size≤w'.heap.size):Tab P K E S size flat lit A B w' sb bm v' (ks++[k]):=by
 refine⟨hblk,?_,?_,T.sbA,T.bmA,T.sbB,T.bmB,T.ne,Nat.le_trans T.top hs,?_⟩
 ·rw [List.map_append,List.map_cons,List.map_nil,tabD_snoc,List.length_append,List.length_map]
  exact hmap
 ·rw [List.flatMap_append,List.length_append,List.flatMap_cons,List.flatMap_nil,List.append_nil]
  exact hrow
 ·rw [List.map_append,List.map_cons,List.map_nil,List.nodup_append]
  refine⟨T.nodup,by simp,fun a ha b hb=>?_⟩
  simp at hb
  subst hb
  exact fun e=>hnew (e ▸ ha)
theorem Tab.mono {A':Nat}(T:Tab P K E S size flat lit A B w sb bm v ks)(h:A'≤A):Tab P K E S size flat lit A' B w sb bm v ks:=
 ⟨T.blk,T.map,T.row,Nat.le_trans h T.sbA,Nat.le_trans h T.bmA,T.sbB,T.bmB,T.ne,T.top,T.nodup⟩
theorem Tab.drewN (T:Tab P K E S size flat lit A B w sb bm v ks)(n:Nat):Tab P K E S size flat lit A B (w.drewN n) sb bm v ks:=
 T.kept (Q:=fun _=>False) ⟨rfl,rfl,rfl,Nat.le_refl _,fun _ _ _=>rfl⟩ (fun _ _ h=>h)
end
section
variable {κ:Type} [DecidableEq κ]
theorem Touch.drewN (w:World)(n:Nat)(S:Nat→Prop):Touch w (w.drewN n) S:=⟨rfl,rfl,rfl,Nat.le_refl _,fun _ _ _=>rfl⟩
theorem Rd.touch {w w':World}{s:Value}{xs:List Value}{S:Nat→Prop}(h:Rd w s xs)(ht:Touch w w' S)(hd:∀b,s.ownBlock=some b→¬S b):Rd w' s xs:=by
 refine or_map h id ?_
 rintro⟨b,off,cap,rfl,hlt,hc⟩
 exact⟨b,off,cap,rfl,Nat.lt_of_lt_of_le hlt ht.size,fun i u hu=>(World.cell?_of_block (w:=w) (ht.block b hlt (hd b rfl))).trans (hc i u hu)⟩
theorem below_drawn {B:Nat}{a w:World}(h:Below B a w)(n:Nat):Below B a (w.drewN n):=h.trans ⟨rfl,rfl,rfl,Nat.le_refl _,fun _ _=>rfl⟩
end
theorem take_snoc {α:Type}{l:List α}{j:Nat}{x:α}(h:l[j]?=some x):l.take (j+1)=l.take j++[x]:=by
 obtain⟨hlt,e⟩:=List.getElem?_eq_some_iff.1 h
 rw [List.take_succ_eq_append_getElem hlt,e]
end
section
open Go.RowKit Go.WideShapes Go.ChangeShapes Go.ChangeAt Go.Deep
section
variable {H:Type} {enc:TypeId × Value→H} {P:Program} {w:World}
theorem spot_none {a:Addr}{v:Value}(h:w.cell? a=some v):a.spot=none:=by
 obtain⟨b,o,s⟩:=a
 cases s with
 | none=>rfl
 | some s=>
  simp only [World.cell?,Option.isSome_some,if_true] at h
  split at h<;>cases h
theorem rd_of {v:Value}{a:Addr}{len cap m:Nat}{X:Nat→Value}(hv:v=.slice (some a) len cap)(hm:len≤m)(h:∀i,i<m→w.cell? (a.add i)=some (X i))(hlt:a.block<w.heap.size∨len=0):
  Rd w v ((List.range len).map X):=by
 subst hv
 by_cases h0:len=0
 ·subst h0
  exact Or.inl ⟨rfl,Or.inr ⟨_,_,rfl⟩⟩
 ·obtain⟨b,o,s⟩:=a
  have hs:s=none:=by
   have h1:=spot_none (h 0 (by omega))
   have h2:((⟨b,o,s⟩:Addr).add 0).spot=s:=by simp [Addr.add]
   exact h2.symm.trans h1
  subst hs
  refine Or.inr ⟨b,o,cap,by simp,hlt.resolve_right h0,fun i u hu=>?_⟩
  have hi:i<len:=by have:=(List.getElem?_eq_some_iff.1 hu).1;simpa using this
  simp [hi] at hu
  subst hu
  have:=h i (by omega)
  unfold Addr.add at this
  split at this
  ·rename_i e;subst e;simpa using this
  ·simpa using this
end
end
section
def lits64:DataW Unit→List Value
 | .agg l=>l.map fun | .lit (.int k n)=>Value.int k n | _=>undef
 | _=>[]
noncomputable def lowL:Nat:=(World.holding Tryz.prog default ⟨#[],#[],[]⟩).heap.size
noncomputable def putG (h:Array Obj)(g:Nat)(cs:Array Value):Array Obj:=h.modify g fun
 | .cells _ t frozen=>.cells cs t frozen
 | o=>o
noncomputable def laidWorld (os:Os):World:=
 let w0:=World.holding Tryz.prog os ⟨#[.cells #[.string ⟨#[105,110,118,97,108,105,100,32,115,121,110,116,97,120]⟩] 212,.cells #[.string ⟨#[118,97,108,117,101,32,111,117,116,32,111,102,32,114,97,110,103,101]⟩] 212],#[],[]⟩
 {w0 with heap:=putG (putG (putG (putG (putG w0.heap 2 #[.iface 210 (.pointer (some ⟨lowL,0,none⟩))]) 3 #[.iface 210 (.pointer (some ⟨lowL+1,0,none⟩))])
   0 (lits64 Rows.laid_internal_strconv_uint64pow10).toArray) 4 (lits64 Rows.laid_math_bits_deBruijn32tab).toArray) 5 (lits64 Rows.laid_math_bits_deBruijn64tab).toArray}
end
section
open Go.RowKit Go.WideShapes Go.ChangeShapes Go.ChangeAt Go.Deep
section
variable {H:Type} {enc:TypeId × Value→H} {P:Program} {w:World}
theorem add_add {b o i j:Nat}:((⟨b,o,none⟩:Addr).add i).add j=⟨b,o+i+j,none⟩:=by
 unfold Addr.add
 split<;>split<;>simp_all
end
end
section
open Go.RowKit Go.Maps Go.WideShapes Go.ChangeShapes Go.ChangeAt Go.Deep
abbrev RdS (w:World)(v:Value)(ss:List ByteArray):Prop:=Rd w v (ss.map Value.string)
def RdE {α:Type}(c:Nat)(R:World→List Value→α→Prop)(w:World)(v:Value)(L:List α):Prop:=
 (L=[]∧(v=.slice none 0 0∨∃a k,v=.slice (some a) 0 k))∨∃b off cap,v=.slice (some ⟨b,off,none⟩) L.length cap∧b<w.heap.size∧
  ∀i d,L[i]?=some d→∃cs,R w cs d∧cs.length=c∧∀j u,cs[j]?=some u→w.cell? ⟨b,off+i*c+j,none⟩=some u
section
variable {α:Type} {c:Nat} {R:World→List Value→α→Prop} {w w':World} {v:Value} {L:List α}
theorem RdE.form (h:RdE c R w v L):∃a k,v=.slice a L.length k:=by
 rcases h with ⟨rfl,rfl | ⟨a,k,rfl⟩⟩ | ⟨b,off,cap,rfl,_⟩
 ·exact⟨none,0,rfl⟩
 ·exact⟨some a,k,rfl⟩
 ·exact⟨_,cap,rfl⟩
theorem RdE.below (hR:∀cs d,R w cs d→R w' cs d)(h:RdE c R w v L)(hb:Below w.heap.size w w'):RdE c R w' v L:=by
 refine or_map h id ?_
 rintro⟨b,off,cap,e,hlt,hc⟩
 refine⟨b,off,cap,e,Nat.lt_of_lt_of_le hlt hb.size,fun i d hi=>?_⟩
 obtain⟨cs,h1,h2,h3⟩:=hc i d hi
 exact⟨cs,hR cs d h1,h2,fun j u hj=>(hb.cell (p:=⟨b,off+i*c+j,none⟩) hlt).trans (h3 j u hj)⟩
theorem RdE.at (h:RdE c R w v L){i:Nat}{d:α}(hi:L[i]?=some d):∃b off cap cs,v=.slice (some ⟨b,off,none⟩) L.length cap∧b<w.heap.size∧R w cs d∧cs.length=c∧∀j u,cs[j]?=some u→w.cell? ⟨b,off+i*c+j,none⟩=some u:=by
 rcases h with ⟨rfl,_⟩ | ⟨b,off,cap,e,hlt,hc⟩
 ·simp at hi
 ·obtain⟨cs,h1,h2,h3⟩:=hc i d hi
  exact⟨b,off,cap,cs,e,hlt,h1,h2,h3⟩
theorem RdE.nil (w:World):RdE c R w (.slice none 0 0) []:=Or.inl ⟨rfl,Or.inl rfl⟩
end
structure Ins where
 op:Int
 dst:ByteArray
 a:ByteArray
 b:ByteArray
 n:Int
 fn:ByteArray
 args:List ByteArray
 labels:List ByteArray
def insV (d:Ins)(va vl:Value):List Value:=[.int .u8 d.op,.string d.dst,.string d.a,.string d.b,.int .i64 d.n,.string d.fn,va,vl]
def RdIns (w:World)(cs:List Value)(d:Ins):Prop:=∃va vl,cs=insV d va vl∧RdS w va d.args∧RdS w vl d.labels
structure Blk where
 label:ByteArray
 code:List Ins
def RdBlk (w:World)(cs:List Value)(d:Blk):Prop:=∃vc,cs=[.string d.label,vc]∧RdE 8 RdIns w vc d.code
structure Fun where
 name:ByteArray
 params:List ByteArray
 blocks:List Blk
def RdFun (w:World)(cs:List Value)(d:Fun):Prop:=∃vp vb,cs=[.string d.name,vp,vb]∧RdS w vp d.params∧RdE 2 RdBlk w vb d.blocks
section
variable {w w':World} {cs:List Value}
theorem RdIns.below {d:Ins}(h:RdIns w cs d)(hb:Below w.heap.size w w'):RdIns w' cs d:=by
 obtain⟨va,vl,e,h1,h2⟩:=h
 exact⟨va,vl,e,Rd.below h1 hb,Rd.below h2 hb⟩
theorem RdBlk.below {d:Blk}(h:RdBlk w cs d)(hb:Below w.heap.size w w'):RdBlk w' cs d:=by
 obtain⟨vc,e,h1⟩:=h
 exact⟨vc,e,RdE.below (fun _ _ h=>h.below hb) h1 hb⟩
theorem RdFun.below {d:Fun}(h:RdFun w cs d)(hb:Below w.heap.size w w'):RdFun w' cs d:=by
 obtain⟨vp,vb,e,h1,h2⟩:=h
 exact⟨vp,vb,e,Rd.below h1 hb,RdE.below (fun _ _ h=>h.below hb) h2 hb⟩
end
def Ins.Fits (d:Ins):Prop:=0≤d.op∧d.op<256∧d.dst.size≤maxLen∧d.a.size≤maxLen∧d.b.size≤maxLen∧(Lit.int .i64 d.n).wf=true∧d.fn.size≤maxLen∧(∀s∈d.args,s.size≤maxLen)∧(∀s∈d.labels,s.size≤maxLen)∧d.args.length≤maxLen∧d.labels.length≤maxLen
def Blk.Fits (d:Blk):Prop:=d.label.size≤maxLen∧(∀x∈d.code,x.Fits)∧d.code.length≤maxLen
def Fun.Fits (d:Fun):Prop:=d.name.size≤maxLen∧(∀s∈d.params,s.size≤maxLen)∧(∀x∈d.blocks,x.Fits)∧d.params.length≤maxLen∧d.blocks.length≤maxLen
section
variable {H:Type} {enc:TypeId × Value→H} {P:Program} {w:World}
theorem choose_lt' {α:Type}{Q:Nat→α→Prop}{n:Nat}(h:∀i,i<n→∃x,Q i x):∃L:List α,L.length=n∧∀i x,L[i]?=some x→Q i x:=by
 induction n with
 | zero=>exact⟨[],rfl,fun i x h=>by simp at h⟩
 | succ n ih=>
  obtain⟨L,hl,hL⟩:=ih (fun i hi=>h i (by omega))
  obtain⟨x,hx⟩:=h n (by omega)
  refine⟨L++[x],by simp [hl],fun i y hy=>?_⟩
  rcases Nat.lt_or_ge i n with h1 | h1
  ·rw [List.getElem?_append_left (by omega)] at hy
   exact hL i y hy
  ·have h2:=(List.getElem?_eq_some_iff.1 hy).1
   simp at h2
   obtain rfl:i=n:=by omega
   rw [List.getElem?_append_right (by omega)] at hy
   simp [hl] at hy
   subst hy
   exact hx
theorem rd_elems_in {α:Type}{F:α→Prop}{R:World→List Value→α→Prop}{t e:TypeId}{n c:Nat}{cs:List Value}{x:DataW H × List MemPlace}(ht:P.underlying t=some (.slice e))(hc:P.cellsOf e=c)(hc0:0<c)
  (hR:∀(n:Nat) (cs:List Value) (x:DataW H × List MemPlace),DataW.trod enc P w 0 (fun _=>true) true n e cs=some x→∃d,R w cs d∧F d)
  (hn:DataW.trod enc P w 0 (fun _=>true) true n t cs=some x):∃v L,cs=[v]∧RdE c R w v L∧(∀d∈L,F d)∧L.length≤maxLen:=by
 subst hc
 rcases open_slice ht hn with ⟨e1,_⟩ | ⟨a',len,cap,m,n',D,Pl,e1,_,hl,hm,hmm,_,hx⟩
 ·exact⟨_,[],e1,Or.inl ⟨rfl,Or.inl rfl⟩,(fun x h=>by cases h),Nat.zero_le _⟩
 ·simp only [if_true] at hmm
  by_cases h0:len=0
  ·subst h0
   exact⟨_,[],e1,Or.inl ⟨rfl,Or.inr ⟨_,_,rfl⟩⟩,(fun x h=>by cases h),Nat.zero_le _⟩
  ·obtain⟨b,o,s⟩:=a'
   obtain⟨cs0,hcs0,_⟩:=hx 0 (by omega)
   obtain⟨_,hlen0,hce0⟩:=World.cells?_some hcs0
   have h1:∃u,w.cell? (((⟨b,o,s⟩:Addr).add (0*P.cellsOf e)).add 0)=some u:=by
    rw [hce0 0 (by omega)]
    exact⟨_,List.getElem?_eq_getElem (by omega)⟩
   obtain⟨u,hu⟩:=h1
   have hs:s=none:=by
    have h2:=spot_none hu
    have h3:(((⟨b,o,s⟩:Addr).add (0*P.cellsOf e)).add 0).spot=s:=by simp [Addr.add]
    exact h3.symm.trans h2
   subst hs
   have hb:b<w.heap.size:=by
    rw [add_add] at hu
    unfold World.cell? at hu
    split at hu
    ·rename_i h4
     exact (Array.getElem?_eq_some_iff.1 h4).1
    ·cases hu
   obtain⟨L,hL,hQ⟩:=choose_lt' (n:=len) (Q:=fun i d=>(∃cs,R w cs d∧cs.length=P.cellsOf e∧∀j u,cs[j]?=some u→w.cell? ⟨b,o+i*P.cellsOf e+j,none⟩=some u)∧F d) (fun i hi=>by
    obtain⟨cs',hcs,htr⟩:=hx i (by omega)
    obtain⟨_,hlen,hce⟩:=World.cells?_some hcs
    obtain⟨d,hd,hF⟩:=hR _ _ _ htr
    refine⟨d,⟨cs',hd,hlen,fun j u hj=>?_⟩,hF⟩
    have hlt:=(List.getElem?_eq_some_iff.1 hj).1
    rw [←hj,←hce j (by omega),add_add])
   refine⟨_,L,e1,Or.inr ⟨b,o,cap,by rw [hL],hb,fun i d hi=>(hQ i d hi).1⟩,fun d hd=>?_,by omega⟩
   obtain⟨i,hi⟩:=List.mem_iff_getElem?.1 hd
   exact (hQ i d hi).2
end
theorem cellsStr:Tryz.prog.cellsOf 9=1:=by kernel_rfl
theorem cellsIns:Tryz.prog.cellsOf 46=8:=by kernel_rfl
theorem cellsBlk:Tryz.prog.cellsOf 43=2:=by kernel_rfl
theorem cellsFun:Tryz.prog.cellsOf 40=3:=by kernel_rfl
section
variable {H:Type} {enc:TypeId × Value→H} {w:World}
theorem u8_bounds {k:Int}(h:(Lit.int .u8 k).wf=true):0≤k∧k<256:=by
 simp [Lit.wf,IntKind.min,IntKind.max,IntKind.signed,IntKind.bits] at h
 omega
theorem field_one {P:Program}{fs:Array Field}{n:Nat}{cs:List Value}{xs:List (DataW H × List MemPlace)}(hone:oneCellFields P fs=true)(hxl:xs.length=fs.size)
  (hf:∀(i:Nat) (f:Field),fs[i]?=some f→DataW.trod enc P w 0 (fun _=>true) true n f.type ((cs.drop f.offset).take (P.cellsOf f.type))=xs[i]?) {i:Nat} {f:Field} (hi:fs[i]?=some f) {v:Value} (hv:cs[i]?=some v):
  ∃y,DataW.trod enc P w 0 (fun _=>true) true n f.type [v]=some y:=by
 obtain⟨h0,h1⟩:=hone_of hone i f hi
 have h2:=hf i f hi
 rw [h0,h1] at h2
 obtain⟨hlt,e⟩:=List.getElem?_eq_some_iff.1 hv
 have h3:(cs.drop i).take 1=[v]:=by rw [List.drop_eq_getElem_cons hlt,e];rfl
 rw [h3] at h2
 have h4:i<xs.length:=by rw [hxl];exact (Array.getElem?_eq_some_iff.1 hi).1
 exact⟨_,h2.trans (List.getElem?_eq_getElem h4)⟩
theorem list2 {α:Type}:∀{l:List α},l.length=2→∃a b,l=[a,b]
 | [a,b],_=>⟨a,b,rfl⟩
theorem list3 {α:Type}:∀{l:List α},l.length=3→∃a b c,l=[a,b,c]
 | [a,b,c],_=>⟨a,b,c,rfl⟩
theorem list8 {α:Type}:∀{l:List α},l.length=8→∃a b c d e f g h,l=[a,b,c,d,e,f,g,h]
 | [a,b,c,d,e,f,g,h],_=>⟨a,b,c,d,e,f,g,h,rfl⟩
theorem rd_agg_in {α:Type}{F:α→Prop}{R:World→List Value→α→Prop}{P:Program}{t:TypeId}{fs:Array Field}(ht:P.underlying t=some (.struct fs)){base:Nat}{v:Value}{d:DataW H}{ps:List MemPlace}
  (hval:Value.okWide P w .any base t v)
  (hR:∀(n:Nat) (cs:List Value) (x:DataW H × List MemPlace),DataW.trod enc P w 0 (fun _=>true) true n t cs=some x→∃d,R w cs d∧F d)
  (h:DataW.Trod enc P w 0 (fun _=>true) true t v d ps):∃cs d,v=.agg cs.toArray∧R w cs d∧F d:=by
 obtain⟨⟨cs⟩,rfl,hsz⟩:=okWide_struct ht hval
 obtain⟨n,hn⟩:=h
 obtain⟨d,h1,h2⟩:=hR n cs _ hn
 exact⟨cs,d,rfl,h1,h2⟩
end
end
section
open Go.RowKit Go.Maps
theorem nm_eqB (b c:UInt8):((b.toNat:Int)==(c.toNat:Int))=(b==c):=by
 rw [Bool.eq_iff_iff]
 simp
 constructor
 ·intro h
  exact UInt8.toNat_inj.1 (by omega)
 ·rintro rfl
  rfl
theorem nm_geB (b c:UInt8):decide ((b.toNat:Int)≥(c.toNat:Int))=decide (c≤b):=by
 rw [Bool.eq_iff_iff]
 simp [UInt8.le_iff_toNat_le]
theorem nm_leB (b c:UInt8):decide ((b.toNat:Int)≤(c.toNat:Int))=decide (b≤c):=by
 rw [Bool.eq_iff_iff]
 simp [UInt8.le_iff_toNat_le]
def nmLetterB (b:UInt8):Bool:=((decide (97≤b)&&decide (b≤122)) || (decide (65≤b)&&decide (b≤90))) || (b==95)
def nmOkB (b:UInt8):Bool:=nmLetterB b || ((b==46) || (decide (48≤b)&&decide (b≤57)))
def nmHeadB (l:List UInt8):Bool:=match l with | c::_=>nmLetterB c | []=>false
def isName (s:ByteArray):Bool:=decide (s.size≤64)&&(!(s.toList==[110,117,108,108])&&(nmHeadB s.data.toList&&s.data.toList.all nmOkB))
theorem nm_letter_any (b:UInt8)(w:World):Calls Tryz.prog 183 #[.int .u8 b.toNat] w fun e w'=>e=.returned (.bool (nmLetterB b))∧w=w':=by
 have e1:decide ((b.toNat:Int)≥97)=decide (97≤b):=nm_geB b 97
 have e2:decide ((b.toNat:Int)≤122)=decide (b≤122):=nm_leB b 122
 have e3:decide ((b.toNat:Int)≥65)=decide (65≤b):=nm_geB b 65
 have e4:decide ((b.toNat:Int)≤90)=decide (b≤90):=nm_leB b 90
 have e5:((b.toNat:Int)==95)=(b==95):=nm_eqB b 95
 unfold nmLetterB
 generalize decide (97≤b)=q1 at *
 generalize decide (b≤122)=q2 at *
 generalize decide (65≤b)=q3 at *
 generalize decide (b≤90)=q4 at *
 generalize (b==95)=q5 at *
 cases q1<;>cases q2<;>cases q3<;>cases q4<;>cases q5<;>(go_enter Tryz.func183,Tryz.ntmps183;go_wp2;go_ret;exact⟨rfl,rfl⟩)
theorem nm_all_take (s:ByteArray)(k:Nat)(h:k<s.size)(p:UInt8→Bool):(s.data.toList.take (k+1)).all p=((s.data.toList.take k).all p&&p s[k]):=by
 rw [List.take_succ_eq_append_getElem (by simpa using h),List.all_append]
 simp
 rfl
theorem nm_all_false {l:List UInt8}{k:Nat}{p:UInt8→Bool}(h:(l.take k).all p=false):l.all p=false:=by
 rw [Bool.eq_false_iff] at h ⊢
 intro ha
 apply h
 rw [List.all_eq_true] at ha ⊢
 exact fun x hx=>ha x (List.mem_of_mem_take hx)
set_option maxHeartbeats 1000000 in
theorem nm_is_any (s:ByteArray)(w:World)(hs:s.size≤maxLen):Calls Tryz.prog 165 #[.string s] w fun e w'=>e=.returned (.bool (isName s))∧w=w':=by
 unfold maxLen at hs
 by_cases h1:s.size=0
 ·have e1:s.toList.isEmpty=true:=by rw [Lib.toList_data];simp;exact Array.eq_empty_of_size_eq_zero h1
  have er:isName s=false:=by
   unfold isName nmHeadB
   rw [show s.data.toList=[] from by simp;exact Array.eq_empty_of_size_eq_zero h1]
   simp
  rw [er]
  clear er
  go_enter Tryz.func165,Tryz.ntmps165
  go_wp2_with fail
  go_ret
  exact⟨rfl,rfl⟩
 have e1:s.toList.isEmpty=false:=by
  rw [Lib.toList_data,Bool.eq_false_iff];simp;intro h;exact h1 (by rw [←ByteArray.size_data,h];rfl)
 by_cases h2:s.size≤64
 case neg=>
  have er:isName s=false:=by unfold isName;simp [h2]
  rw [er]
  clear er
  have e2:decide ((s.size:Int) > 64)=true:=by simp;omega
  have e2n:decide (64<s.size)=true:=by simp;omega
  go_enter Tryz.func165,Tryz.ntmps165
  go_wp2_with fail
  go_ret
  exact⟨rfl,rfl⟩
 have e2:decide ((s.size:Int) > 64)=false:=by simp;omega
 have e2n:decide (64<s.size)=false:=by simp;omega
 by_cases h3:(s.toList==[110,117,108,108])=true
 ·have er:isName s=false:=by unfold isName;simp [h3]
  rw [er]
  clear er
  go_enter Tryz.func165,Tryz.ntmps165
  go_wp2_with fail
  go_ret
  exact⟨rfl,rfl⟩
 replace h3:(s.toList==[110,117,108,108])=false:=by simpa using h3
 have h0:0<s.size:=by omega
 have er:isName s=(nmLetterB s[0]&&s.data.toList.all nmOkB):=by
  unfold isName nmHeadB
  cases hl:s.data.toList with
  | nil=>
   exfalso
   have h9:s.data.toList.length=0:=by rw [hl];rfl
   have h8:s.data.size=0:=by simpa using h9
   exact h1 h8
  | cons c r=>
   have:s[0]=c:=by
    show s.data[0]=c
    have:=Array.getElem_toList (xs:=s.data) (i:=0) (h:=h0)
    simp only [hl] at this
    exact this.symm
   rw [h3,this]
   simp [h2]
 rw [er]
 have k1:=Lib.hid (nm_letter_any s[0] w)
 generalize hp:nmLetterB s[0]=p at *
 generalize hA:s.data.toList.all nmOkB=A at *
 replace hA:=Lib.hid hA
 replace hp:=Lib.hid hp
 replace er:=Lib.hid er
 cases p with
 | false=>
  go_enter Tryz.func165,Tryz.ntmps165
  go_wp2_with (go_at_call 183;refine k1.out.mono ?_;rintro e w' ⟨rfl,rfl⟩)
  go_ret
  exact⟨rfl,rfl⟩
 | true=>
  go_enter Tryz.func165,Tryz.ntmps165
  go_wp2_with (go_at_call 183;refine k1.out.mono ?_;rintro e w' ⟨rfl,rfl⟩)
  clear k1
  go_loop [3,4,24] (fun _ _ i=>∃k:Nat,k≤s.size∧i=.int .i64 k∧Hid ((s.data.toList.take k).all nmOkB=true)) (fun _ _ i=>s.size-(intOf i).toNat)
  case atStart=>exact⟨0,Nat.zero_le _,rfl,Lib.hid (by simp)⟩
  case round=>
   obtain⟨k,hk,rfl,ha⟩:=hrel
   by_cases hlt:k<s.size
   ·have j1:decide ((k:Int)<(s.size:Int))=true:=by simpa using hlt
    have hat:=nm_all_take s k hlt nmOkB
    rw [ha.out,Bool.true_and] at hat
    have k2:=Lib.hid (nm_letter_any s[k] w)
    have f1:((s[k].toNat:Int) != 46)=!(s[k]==46):=by have:((s[k].toNat:Int)==46)=(s[k]==46):=nm_eqB s[k] 46;show (!((s[k].toNat:Int)==46))=_;rw [this]
    have f2:decide ((s[k].toNat:Int)<48)=!decide (48≤s[k]):=by
     have:decide ((s[k].toNat:Int)≥48)=decide (48≤s[k]):=nm_geB s[k] 48
     rw [←this,←decide_not]
     exact decide_eq_decide.2 (by show _<(48:Int)↔¬((48:Int)≤_);omega)
    have f3:decide ((s[k].toNat:Int) > 57)=!decide (s[k]≤57):=by
     have:decide ((s[k].toNat:Int)≤57)=decide (s[k]≤57):=nm_leB s[k] 57
     rw [←this,←decide_not]
     exact decide_eq_decide.2 (by show (57:Int)<_↔¬(_≤(57:Int));omega)
    have hok:nmOkB s[k]=(nmLetterB s[k] || ((s[k]==46) || (decide (48≤s[k])&&decide (s[k]≤57)))):=rfl
    rw [hok] at hat
    clear hok
    generalize nmLetterB s[k]=q1 at *
    generalize (s[k]==46)=q2 at *
    generalize decide (48≤s[k])=q3 at *
    generalize decide (s[k]≤57)=q4 at *
    replace hat:=Lib.hid hat
    cases q1<;>cases q2<;>cases q3<;>cases q4<;>(
     go_wp2_with (go_at_call 183;refine k2.out.mono ?_;rintro e w' ⟨rfl,rfl⟩)
     first
     | (
        go_round
        case rel=>exact⟨k+1,by omega,by go_num,Lib.hid hat.out⟩
        case measure=>simp [intOf];omega)
     | (
        go_ret
        exact⟨by rw [←hA.out,nm_all_false hat.out];rfl,rfl⟩))
   ·obtain rfl:k=s.size:=by omega
    have j1:decide ((s.size:Int)<(s.size:Int))=false:=by simp
    have:=ha.out
    rw [List.take_of_length_le (by simp)] at this
    replace this:=Lib.hid this
    clear ha
    go_wp2_with fail
    go_ret
    exact⟨by rw [←hA.out,this.out];rfl,rfl⟩
end
section
open Go.RowKit Go.Maps Go.WideMaps
instance memBytes (s:ByteArray) (ls:List ByteArray):Decidable (s∈ls):=@List.instDecidableMemOfLawfulBEq ByteArray instBEqOfDecidableEq inferInstance s ls
def litS (s:ByteArray):Lit:=.string s.data.toList
theorem litS_inj {a b:ByteArray}(h:litS a=litS b):a=b:=by
 unfold litS at h
 simp only [Lit.string.injEq] at h
 exact ByteArray.ext (Array.toList_inj.1 h)
theorem litS_key (a:ByteArray):WideAt.IsKeyLit (litS a):=trivial
theorem lawS:Keyed Tryz.prog 9:=string_keyed Tryz.underlying9
theorem zeroI (w:World):(zeroValue 3).run Tryz.prog w=.ok (.int .i64 0) w:=by kernel_rfl
theorem ownsMap_block {w w':World}{P:Program}{k:TypeId}{R:Value→Option (DataW Unit × List MemPlace)}{b n:Nat}{D:DataW Unit}(h:w.ownsMap P k R b n D)(hb:w'.heap[b]?=w.heap[b]?):w'.ownsMap P k R b n D:=by
 obtain⟨es,clock,h1,h2⟩:=h
 exact⟨es,clock,hb.trans h1,h2⟩
theorem keyS (s:ByteArray)(h:s.size≤maxLen):keyOf Tryz.prog 9 (.string s)=some (litS s):=keyOf_string_mk Tryz.underlying9 h
theorem zeroU0 (w:World):(zeroValue 152).run Tryz.prog w=.ok (.agg #[]) w:=by kernel_rfl
theorem own_tightS {k:TypeId}{R:Value→Option (DataW Unit × List MemPlace)}{w:World}{b n:Nat}{D:DataW Unit}(h:w.ownsMap Tryz.prog k R b n D):w.ownsMap Tryz.prog k R b (Maps.size D) D:=by
 obtain⟨es,clock,hb,F,hs,rfl⟩:=h
 refine⟨es,clock,hb,F,?_,rfl⟩
 simp [Maps.size,length_sorted]
def SetS (w:World)(b:Nat)(l:List ByteArray):Prop:=
 ∃D:DataW Unit,w.ownsMap Tryz.prog 9 (unitElem (H:=Unit)) b l.length D∧Maps.size D=l.length∧∀s,Maps.has D (litS s)=decide (s∈l)
theorem SetS.lt {w:World}{b:Nat}{l:List ByteArray}(h:SetS w b l):b<w.heap.size:=by
 obtain⟨D,h1,-⟩:=h
 exact h1.lt
theorem SetS.block {w w':World}{b:Nat}{l:List ByteArray}(h:SetS w b l)(hb:w'.heap[b]?=w.heap[b]?):SetS w' b l:=by
 obtain⟨D,h1,h3⟩:=h
 exact⟨D,ownsMap_block h1 hb,h3⟩
theorem SetS.new (w:World):SetS (w.alloc (.map #[] 0)) w.heap.size []:=by
 refine⟨.map [],World.ownsMap_made w _ _ _,rfl,fun s=>?_⟩
 simp [Maps.has]
def plusS (l:List ByteArray)(y:ByteArray):List ByteArray:=if y∈l then l else y::l
theorem mem_plusS {l:List ByteArray}{y x:ByteArray}:x∈plusS l y↔x∈l∨x=y:=by
 unfold plusS
 by_cases h:y∈l
 ·rw [if_pos h]
  exact⟨.inl,fun h1=>h1.elim id (fun e=>e ▸ h)⟩
 ·rw [if_neg h,List.mem_cons]
  exact⟨fun h1=>h1.elim .inr .inl,fun h1=>h1.elim .inr .inl⟩
theorem plusS_len (l:List ByteArray)(y:ByteArray):(plusS l y).length≤l.length+1:=by
 unfold plusS
 split<;>simp
section
variable {w:World} {ops:Array Oper} {rest:List Oper} {o:Oper} {a:Act} {Q:Exit→Act→World→Prop}
theorem wpList_setS_put (hg:o.guard=none)(m x v:Operand)(hop:o.op=Op.mapUpdate 148 m x v)(b:Nat)(l:List ByteArray)(h:SetS w b l)(hm:a.eval m=.map (some b))(y:ByteArray)(hx:a.eval x=.string y)(hv:a.eval v=.agg #[])(hy:y.size≤maxLen)(hl:l.length≤4000000000000000000)
  (hK:∀w',SetS w' b (plusS l y)→Touch w w' (fun k=>k=b)→wpList Tryz.prog ops Q rest (a.put o.dst undef) w'):wpList Tryz.prog ops Q (o::rest) a w:=by
 obtain⟨D,hown,hsz,hhas⟩:=h
 have hti:=hown.tidy lawS
 refine wpList_mapUpdate_in w hg m x v 148 hop 9 152 lawS Tryz.underlying148 _ b l.length D hm hown (by unfold maxLen;omega) _ _ _ hx hv (keyS y hy) _ [] unitElem_mk ?_
 intro w' hown' hturn
 refine hK w' ?_ (Touch.of_grown hturn.grown (fun k hk=>by cases hk;rfl))
 have hs2:=Maps.size_put hti (k:=litS y) (.agg [])
 have hs3:Maps.size (D.put (litS y) (.agg []))=(plusS l y).length:=by
  rw [hs2,hhas]
  unfold plusS
  by_cases hyl:y∈l
  ·rw [if_pos hyl,decide_eq_true hyl,if_pos rfl,hsz]
  ·rw [if_neg hyl,decide_eq_false hyl,hsz,List.length_cons]
   rfl
 refine⟨_,hs3 ▸ own_tightS hown',hs3,fun s=>?_⟩
 by_cases e:s=y
 ·subst e
  rw [Maps.has_put_same (k:=litS s) hti.isMap trivial]
  exact (decide_eq_true (mem_plusS.2 (.inr rfl))).symm
 ·rw [Maps.has_put_other (fun h=>e (litS_inj h)),hhas]
  exact decide_eq_decide.2 ⟨fun h=>mem_plusS.2 (.inl h),fun h=>(mem_plusS.1 h).elim id (fun h=>absurd h e)⟩
theorem wpList_setS_look (hg:o.guard=none)(m x:Operand)(hop:o.op=Op.lookup 148 m x true)(b:Nat)(l:List ByteArray)(h:SetS w b l)(hm:a.eval m=.map (some b))(y:ByteArray)(hx:a.eval x=.string y)(hy:y.size≤maxLen)
  (hK:wpList Tryz.prog ops Q rest (a.put o.dst (.tuple #[.agg #[],.bool (decide (y∈l))])) w):wpList Tryz.prog ops Q (o::rest) a w:=by
 obtain⟨D,hown,hsz,hhas⟩:=h
 refine wpList_lookup_own_unit w hg m x 148 hop 9 152 lawS Tryz.underlying148 (zeroU0 w) b l.length D hm hown _ _ hx (keyS y hy) ?_
 rw [hhas]
 exact hK
end
end
section
open Go.RowKit Go.Maps
theorem RdS.cell {w:World}{v:Value}{ss:List ByteArray}(h:RdS w v ss){i:Nat}{s:ByteArray}(hi:ss[i]?=some s):∃b off cap,v=.slice (some ⟨b,off,none⟩) ss.length cap∧w.cell? ⟨b,off+i,none⟩=some (.string s):=by
 obtain⟨b,off,cap,e,-,h2⟩:=Rd.at h (i:=i) (u:=.string s) (by simp [hi])
 exact⟨b,off,cap,by simpa using e,h2⟩
theorem RdS.shape {w:World}{v:Value}{ss:List ByteArray}(h:RdS w v ss):∃a c,v=.slice a ss.length c:=by
 obtain⟨a,c,e⟩:=Rd.form h
 exact⟨a,c,by simpa using e⟩
theorem take_snocS {α:Type}{l:List α}{k:Nat}{z:α}(hz:l[k]?=some z):l.take (k+1)=l.take k++[z]:=by
 obtain⟨h,rfl⟩:=List.getElem?_eq_some_iff.1 hz
 rw [List.take_succ_eq_append_getElem h]
theorem all_false_take {α:Type}{l:List α}{k:Nat}{p:α→Bool}(h:(l.take k).all p=false):l.all p=false:=by
 rw [Bool.eq_false_iff] at h ⊢
 intro ha
 apply h
 rw [List.all_eq_true] at ha ⊢
 exact fun x hx=>ha x (List.mem_of_mem_take hx)
set_option maxHeartbeats 1000000 in
theorem allNames_any {w:World}{v:Value}{ss:List ByteArray}(h:RdS w v ss)(hl:ss.length≤maxLen)(hf:∀s∈ss,s.size≤maxLen):Calls Tryz.prog 127 #[v] w fun e w'=>e=.returned (.bool (ss.all isName))∧w=w':=by
 obtain⟨a,c,rfl⟩:=h.shape
 obtain⟨n,hn⟩:∃n,n=ss.length:=⟨_,rfl⟩
 rw [←hn] at hl h ⊢
 unfold maxLen at hl
 generalize hA:ss.all isName=A
 replace hA:=Lib.hid hA
 replace h:=Lib.hid h
 replace hn:=Lib.hid hn
 replace hf:=Lib.hid hf
 go_enter Tryz.func127,Tryz.ntmps127
 go_wp2_with fail
 go_loop [4,7] (fun _ i=>∃k:Nat,k≤n∧i=.int .i64 k∧Hid ((ss.take k).all isName=true)) (fun _ i=>n-(intOf i).toNat)
 case atStart=>exact⟨0,Nat.zero_le _,rfl,Lib.hid (by simp)⟩
 case round=>
  obtain⟨k,hk,rfl,ha⟩:=hrel
  by_cases hlt:k<n
  ·have j1:decide ((k:Int)<(n:Int))=true:=by simpa using hlt
   have j2:(k:Int)<(n:Int):=by omega
   obtain⟨s,hs⟩:∃s,ss[k]?=some s:=⟨_,List.getElem?_eq_getElem (by rw [←hn.out];exact hlt)⟩
   obtain⟨b,off,cap,e,hc⟩:=h.out.cell hs
   rw [←hn.out] at e
   simp only [Value.slice.injEq] at e
   obtain⟨rfl,-,rfl⟩:=e
   have hat:=take_snocS hs
   have hq:=Lib.hid (nm_is_any s w (hf.out s (List.mem_of_getElem? hs)))
   have hall:Hid ((ss.take (k+1)).all isName=isName s):=Lib.hid (by rw [hat,List.all_append,ha.out];simp)
   clear hat hs
   generalize isName s=q at hq hall
   cases q<;>(
    go_wp2_with (go_at_call 165;refine hq.out.mono ?_;rintro e w' ⟨rfl,rfl⟩)
    first
    | (
       go_round
       case rel=>exact⟨k+1,by omega,by go_num,hall⟩
       case measure=>simp [intOf];omega)
    | (
       go_ret
       exact⟨by rw [←hA.out,all_false_take hall.out];rfl,rfl⟩))
  ·obtain rfl:k=n:=by omega
   have j1:decide ((k:Int)<(k:Int))=false:=by simp
   have hal:Hid (ss.all isName=true):=Lib.hid (by have:=ha.out;rwa [List.take_of_length_le (by rw [←hn.out];exact Nat.le_refl _)] at this)
   clear ha
   go_wp2_with fail
   go_ret
   exact⟨by rw [←hA.out,hal.out];rfl,rfl⟩
def isNull (s:ByteArray):Bool:=s.toList==[110,117,108,108]
def isOperand (s:ByteArray):Bool:=isNull s || isName s
set_option maxHeartbeats 1000000 in
theorem allOperands_any {w:World}{v:Value}{ss:List ByteArray}(h:RdS w v ss)(hl:ss.length≤maxLen)(hf:∀s∈ss,s.size≤maxLen):Calls Tryz.prog 168 #[v] w fun e w'=>e=.returned (.bool (ss.all isOperand))∧w=w':=by
 obtain⟨a,c,rfl⟩:=h.shape
 obtain⟨n,hn⟩:∃n,n=ss.length:=⟨_,rfl⟩
 rw [←hn] at hl h ⊢
 unfold maxLen at hl
 generalize hA:ss.all isOperand=A
 replace hA:=Lib.hid hA
 replace h:=Lib.hid h
 replace hn:=Lib.hid hn
 replace hf:=Lib.hid hf
 go_enter Tryz.func168,Tryz.ntmps168
 go_wp2_with fail
 go_loop [4,7] (fun _ i=>∃k:Nat,k≤n∧i=.int .i64 k∧Hid ((ss.take k).all isOperand=true)) (fun _ i=>n-(intOf i).toNat)
 case atStart=>exact⟨0,Nat.zero_le _,rfl,Lib.hid (by simp)⟩
 case round=>
  obtain⟨k,hk,rfl,ha⟩:=hrel
  by_cases hlt:k<n
  ·have j1:decide ((k:Int)<(n:Int))=true:=by simpa using hlt
   have j2:(k:Int)<(n:Int):=by omega
   obtain⟨s,hs⟩:∃s,ss[k]?=some s:=⟨_,List.getElem?_eq_getElem (by rw [←hn.out];exact hlt)⟩
   obtain⟨b,off,cap,e,hc⟩:=h.out.cell hs
   rw [←hn.out] at e
   simp only [Value.slice.injEq] at e
   obtain⟨rfl,-,rfl⟩:=e
   have hat:=take_snocS hs
   have hq:=Lib.hid (nm_is_any s w (hf.out s (List.mem_of_getElem? hs)))
   have hall:Hid ((ss.take (k+1)).all isOperand=(isNull s || isName s)):=Lib.hid (by rw [hat,List.all_append,ha.out];simp [isOperand])
   have hnu:(s.toList==[110,117,108,108])=isNull s:=rfl
   clear hat hs
   generalize isName s=q at hq hall
   generalize isNull s=u at hnu hall
   cases q<;>cases u<;>(
    go_wp2_with (go_at_call 165;refine hq.out.mono ?_;rintro e w' ⟨rfl,rfl⟩)
    first
    | (
       go_round
       case rel=>exact⟨k+1,by omega,by go_num,hall⟩
       case measure=>simp [intOf];omega)
    | (
       go_ret
       exact⟨by rw [←hA.out,all_false_take hall.out];rfl,rfl⟩))
  ·obtain rfl:k=n:=by omega
   have j1:decide ((k:Int)<(k:Int))=false:=by simp
   have hal:Hid (ss.all isOperand=true):=Lib.hid (by have:=ha.out;rwa [List.take_of_length_le (by rw [←hn.out];exact Nat.le_refl _)] at this)
   clear ha
   go_wp2_with fail
   go_ret
   exact⟨by rw [←hA.out,hal.out];rfl,rfl⟩
theorem rds_one {w:World}{b:Nat}{s:ByteArray}{t:TypeId}(h:w.heap[b]?=some (.cells #[.string s] t (0,0))):RdS w (.slice (some ⟨b,0,none⟩) 1 1) [s]:=
 .inr ⟨b,0,1,rfl,(Array.getElem?_eq_some_iff.1 h).1,fun j u hu=>by
  rw [blk_cell h,Nat.zero_add]
  simpa using hu⟩
theorem at_newN {w:World}{o:Obj}{b:Nat}(h:b=w.heap.size):(w.alloc o).heap[b]?=some o:=by
 subst h
 exact heap_alloc_new _ _
theorem at_oldN {w:World}{o:Obj}{b:Nat}{x:Obj}(h:w.heap[b]?=some x):(w.alloc o).heap[b]?=some x:=by
 have hb:=(Array.getElem?_eq_some_iff.1 h).1
 simp only [World.alloc]
 rw [Array.getElem?_push,if_neg (by omega)]
 exact h
theorem rds_none (w:World):RdS w (.slice none 0 0) []:=.inl ⟨rfl,.inl rfl⟩
def givenL (s:ByteArray):List ByteArray:=if s.toList.isEmpty then [] else [s]
theorem infoStrN:(Tryz.prog.info? 9).map (fun i=>(i.zero,i.size,i.bytes))=some (some (.string ⟨#[]⟩),1,16):=by kernel_rfl
theorem rds_own1 {w:World}{base:Nat}{v:Value}{s:ByteArray}{t:TypeId}(h:w.ownsRow base t 1 v 1 [.string s]):RdS w v [s]:=by
 rcases h.2 with ⟨rfl,h0⟩ | ⟨g,cap,cur,rfl,h1,h2,h3,h4,h5,h6⟩
 ·omega
 ·refine Or.inr ⟨g,0,cap,rfl,(h.lt g rfl).2,fun k u hu=>?_⟩
  have:=h.cells (g:=g) rfl k u hu
  rw [add0] at this
  rw [Nat.zero_add]
  exact this
set_option maxHeartbeats 1000000 in
theorem given_one {w:World}{v:Value}{s:ByteArray}(h:RdS w v [s])(hs:s.size≤maxLen):Calls Tryz.prog 150 #[v] w fun e w'=>∃v',e=.returned v'∧RdS w' v' (givenL s)∧Below w.heap.size w w':=by
 obtain⟨b,off,cap,rfl,hc⟩:=h.cell (i:=0) rfl
 rw [Nat.add_zero] at hc
 obtain⟨i0,hi0,hz0,hz1,hz2⟩:=info_parts infoStrN
 clear h
 have hgv:∀e,s.toList.isEmpty=e→Hid (givenL s=if e=true then [] else [s]):=fun e he=>Lib.hid (by unfold givenL;rw [he])
 go_enter Tryz.func150,Tryz.ntmps150
 go_wp2_with fail
 go_loopw [3,5,8] (fun v _ i wr=>(i=.int .i64 0∧v=.slice none 0 0∧wr=w)∨(i=.int .i64 1∧Hid (RdS wr v (givenL s))∧Hid (Below w.heap.size w wr))) (fun _ _ i _=>1-(intOf i).toNat)
 case atStart=>exact .inl ⟨rfl,rfl,rfl⟩
 case round=>
  rcases hrel with ⟨rfl,rfl,rfl⟩ | ⟨rfl,hR,hB⟩
  ·cases hE:s.toList.isEmpty with
   | true=>
    have hg:=hgv _ hE
    clear hgv
    go_wp2_with fail
    exact⟨.inr ⟨rfl,Lib.hid (by rw [hg.out];exact rds_none _),Lib.hid (Below.refl _ _)⟩,by simp [intOf]⟩
   | false=>
    have hg:=hgv _ hE
    clear hgv
    have hrd:Hid (Rd (wr.alloc (.cells #[.string s] 9)) (.slice (some ⟨wr.heap.size,0,none⟩) 1 1) ([s].map Value.string)):=Lib.hid (rds_one (at_newN rfl))
    have hbe:Hid (Below wr.heap.size wr (wr.alloc (.cells #[.string s] 9))):=Lib.hid ((Below.refl _ _).alloc (Nat.le_refl _) _)
    go_wp2_with (at_builtin;refine wpList_append_rd _ rfl _ _ 37 rfl wr.heap.size 9 i0 (.string ⟨#[]⟩) 16 Tryz.underlying37 hi0 hz0 hz1 hz2 rfl _ 0 [] rfl (World.ownsRow_nil _ _ _ _) _ ([s].map Value.string) rfl hrd.out (fun u hu=>by simp at hu;subst hu;rfl) (by simp;unfold maxLen;omega) (by simp) (by simp) ?_)
    intro v' w2 hown hgrow hat
    have hb2:=Lib.hid (hbe.out.grown hgrow (by simp) (fun b e=>by simp [Value.ownBlock] at e))
    have hR2:Hid (RdS w2 v' (givenL s)):=Lib.hid (by rw [hg.out];exact rds_own1 (by simpa using hown))
    clear hown hgrow hat
    go_wp2_with fail
    exact⟨.inr ⟨rfl,hR2,hb2⟩,by simp [intOf]⟩
  ·go_wp2_with fail
   go_ret
   exact⟨_,rfl,hR.out,hB.out⟩
end
section
open Go.RowKit Go.Maps
theorem Rd.apart {w w':World}{s:Value}{xs:List Value}{b:Nat}{l:List ByteArray}(h:Rd w s xs)(hM:SetS w b l)(hT:Touch w w' (fun k=>k=b)):Rd w' s xs:=by
 rcases h with h | ⟨g,off,cap,e,hlt,hc⟩
 ·exact .inl h
 ·by_cases h0:xs=[]
  ·subst h0
   exact .inl ⟨rfl,.inr ⟨_,cap,e⟩⟩
  ·obtain⟨x,hx⟩:∃x,xs[0]?=some x:=⟨_,List.getElem?_eq_getElem (List.length_pos_iff.2 h0)⟩
   have h1:=hc 0 x hx
   have hg:g≠b:=by
    rintro rfl
    obtain⟨D,⟨es,clock,hb,-⟩,-⟩:=hM
    simp [World.cell?,hb] at h1
   exact .inr ⟨g,off,cap,e,Nat.lt_of_lt_of_le hlt hT.size,fun i u hu=>by
    rw [←hc i u hu]
    unfold World.cell?
    rw [show w'.heap[g]?=w.heap[g]? from hT.block g hlt hg]⟩
def twiceL:List ByteArray→List ByteArray→Bool × List ByteArray
 | l,[]=>(false,l)
 | l,k::ks=>if k∈l then (true,l) else twiceL (plusS l k) ks
theorem twiceL_len:∀(ks l:List ByteArray),(twiceL l ks).2.length≤l.length+ks.length
 | [],l=>by simp [twiceL]
 | k::ks,l=>by
  unfold twiceL
  split
  ·simp
  ·have h1:=twiceL_len ks (plusS l k)
   have h2:=plusS_len l k
   simp
   omega
theorem twiceL_at {l ks:List ByteArray}{k:Nat}{s:ByteArray}(h:ks[k]?=some s):twiceL l (ks.drop k)=if s∈l then (true,l) else twiceL (plusS l s) (ks.drop (k+1)):=by
 obtain⟨h1,rfl⟩:=List.getElem?_eq_some_iff.1 h
 rw [List.drop_eq_getElem_cons h1]
 rfl
theorem cell_size {w:World}{p:Addr}{v:Value}(h:w.cell? p=some v):p.block<w.heap.size:=by
 unfold World.cell? at h
 split at h
 ·rename_i h2
  exact (Array.getElem?_eq_some_iff.1 h2).1
 ·cases h
set_option maxHeartbeats 2000000 in
theorem twice_any {w:World}{v:Value}{b:Nat}{l ks:List ByteArray}(hM:SetS w b l)(h:RdS w v ks)(hf:∀s∈ks,s.size≤maxLen)(hll:l.length+ks.length≤3000000000000000000):
  Calls Tryz.prog 131 #[.map (some b),v] w fun e w'=>e=.returned (.bool (twiceL l ks).1)∧SetS w' b (twiceL l ks).2∧Touch w w' (fun k=>k=b):=by
 obtain⟨a,c,rfl⟩:=h.shape
 obtain⟨n,hn⟩:∃n,n=ks.length:=⟨_,rfl⟩
 rw [←hn] at h hll ⊢
 generalize hA:twiceL l ks=A
 replace hA:=Lib.hid hA
 have hK:=Lib.hid (fun w' (hT:Touch w w' (fun k=>k=b))=>Rd.apart h hM hT)
 replace hn:=Lib.hid hn
 replace hf:=Lib.hid hf
 replace hM:=Lib.hid hM
 clear h
 go_enter Tryz.func131,Tryz.ntmps131
 go_wp2_with fail
 go_loopw [4,6,7,8,11] (fun _ _ _ _ i wr=>∃(k:Nat) (l2:List ByteArray),k≤n∧i=.int .i64 k∧Hid (twiceL l2 (ks.drop k)=A)∧Hid (SetS wr b l2)∧Hid (Touch w wr (fun k=>k=b))∧l2.length≤l.length+k) (fun _ _ _ _ i _=>n-(intOf i).toNat)
 case atStart=>exact⟨0,l,Nat.zero_le _,rfl,hA,hM,Lib.hid (Touch.refl _ _),Nat.le_refl _⟩
 case round=>
  clear hM
  obtain⟨k,l2,hk,rfl,ha,hM,hT,hl2⟩:=hrel
  by_cases hlt:k<n
  ·have j1:decide ((k:Int)<(n:Int))=true:=by simpa using hlt
   have j2:(k:Int)<(n:Int):=by omega
   obtain⟨s,hs⟩:∃s,ks[k]?=some s:=⟨_,List.getElem?_eq_getElem (by rw [←hn.out];exact hlt)⟩
   obtain⟨g,off,cap,e,hc⟩:=RdS.cell (hK.out wr hT.out) hs
   rw [←hn.out] at e
   simp only [Value.slice.injEq] at e
   obtain⟨rfl,-,rfl⟩:=e
   have hsz:=hf.out s (List.mem_of_getElem? hs)
   have hat:=Lib.hid (twiceL_at (l:=l2) hs)
   have hM2:SetS (wr.alloc (.cells #[] 152)) b l2:=hM.out.block (Below.heap_alloc _ _ _ hM.out.lt)
   have hT2:=hT.out.alloc (.cells #[] 152)
   clear hs
   by_cases hm:s∈l2
   ·have hd:decide (s∈l2)=true:=decide_eq_true hm
    have hA2:=Lib.hid (show (true,l2)=A from by rw [←ha.out,hat.out,if_pos hm])
    replace hm:=Lib.hid hm
    clear ha hat
    go_wp2_with (at_lookup;refine wpList_setS_look rfl _ _ rfl b l2 hM.out rfl s rfl hsz ?_)
    go_ret
    exact⟨by rw [←hA2.out];rfl,by rw [←hA2.out];exact hM2,hT2⟩
   ·have hd:decide (s∈l2)=false:=decide_eq_false hm
    have hA2:=Lib.hid (show twiceL (plusS l2 s) (ks.drop (k+1))=A from by rw [←ha.out,hat.out,if_neg hm])
    have hpl:=plusS_len l2 s
    replace hm:=Lib.hid hm
    clear ha hat
    go_wp2_with (first
     | (at_lookup;refine wpList_setS_look rfl _ _ rfl b l2 hM.out rfl s rfl hsz ?_)
     | (at_mapUpdate;refine wpList_setS_put rfl _ _ _ rfl b l2 hM2 rfl s rfl rfl hsz (by omega) ?_;intro w3 hM3 hT3;go_frame))
    have hT4:=Lib.hid (hT2.trans (hT3.mono (fun _ _ e=>e)))
    replace hM3:=Lib.hid hM3
    clear hT3 hM2 hT2 hM hT
    go_wp2_with fail
    exact⟨⟨k+1,plusS l2 s,by omega,by go_num,hA2,hM3,hT4,by omega⟩,by simp [intOf];omega⟩
  ·obtain rfl:k=n:=by omega
   have j1:decide ((k:Int)<(k:Int))=false:=by simp
   have hA2:=Lib.hid (show (false,l2)=A from by rw [←ha.out,List.drop_of_length_le (by rw [←hn.out];exact Nat.le_refl _)];rfl)
   clear ha
   go_wp2_with fail
   go_ret
   exact⟨by rw [←hA2.out];rfl,by rw [←hA2.out];exact hM.out,hT.out⟩
set_option maxHeartbeats 2000000 in
theorem hasAll_any {w:World}{v:Value}{b:Nat}{l ks:List ByteArray}(hM:SetS w b l)(h:RdS w v ks)(hf:∀s∈ks,s.size≤maxLen)(hll:ks.length≤maxLen):
  Calls Tryz.prog 145 #[.map (some b),v] w fun e w'=>e=.returned (.bool (ks.all fun s=>decide (s∈l)))∧Below w.heap.size w w':=by
 obtain⟨a,c,rfl⟩:=h.shape
 obtain⟨n,hn⟩:∃n,n=ks.length:=⟨_,rfl⟩
 rw [←hn] at h hll ⊢
 unfold maxLen at hll
 generalize hA:(ks.all fun s=>decide (s∈l))=A
 replace hA:=Lib.hid hA
 replace h:=Lib.hid h
 replace hn:=Lib.hid hn
 replace hf:=Lib.hid hf
 replace hM:=Lib.hid hM
 go_enter Tryz.func145,Tryz.ntmps145
 go_wp2_with fail
 go_loopw [4,6,7,8,11] (fun _ _ _ _ i wr=>∃k:Nat,k≤n∧i=.int .i64 k∧Hid ((ks.take k).all (fun s=>decide (s∈l))=true)∧Hid (Below w.heap.size w wr)) (fun _ _ _ _ i _=>n-(intOf i).toNat)
 case atStart=>exact⟨0,Nat.zero_le _,rfl,Lib.hid (by simp),Lib.hid (Below.refl _ _)⟩
 case round=>
  obtain⟨k,hk,rfl,ha,hB⟩:=hrel
  by_cases hlt:k<n
  ·have j1:decide ((k:Int)<(n:Int))=true:=by simpa using hlt
   have j2:(k:Int)<(n:Int):=by omega
   obtain⟨s,hs⟩:∃s,ks[k]?=some s:=⟨_,List.getElem?_eq_getElem (by rw [←hn.out];exact hlt)⟩
   obtain⟨g,off,cap,e,hc⟩:=RdS.cell (Rd.below h.out hB.out) hs
   rw [←hn.out] at e
   simp only [Value.slice.injEq] at e
   obtain⟨rfl,-,rfl⟩:=e
   have hsz:=hf.out s (List.mem_of_getElem? hs)
   have hall:Hid ((ks.take (k+1)).all (fun s=>decide (s∈l))=decide (s∈l)):=Lib.hid (by rw [take_snocS hs,List.all_append,ha.out];simp)
   have hMw:=Lib.hid (hM.out.block (hB.out.block _ hM.out.lt))
   have hB2:=Lib.hid (hB.out.alloc (hB.out.size) (.cells #[] 152))
   clear hs ha
   generalize hd:decide (s∈l)=d at hall
   cases d<;>(
    go_wp2_with (at_lookup;refine wpList_setS_look rfl _ _ rfl b l hMw.out rfl s rfl hsz ?_)
    first
    | (
       go_ret
       exact⟨by rw [←hA.out,all_false_take hall.out];rfl,hB2.out⟩)
    | exact⟨⟨k+1,by omega,by go_num,hall,hB2⟩,by simp [intOf];omega⟩)
  ·obtain rfl:k=n:=by omega
   have j1:decide ((k:Int)<(k:Int))=false:=by simp
   have hal:Hid ((ks.all fun s=>decide (s∈l))=true):=Lib.hid (by have:=ha.out;rwa [List.take_of_length_le (by rw [←hn.out];exact Nat.le_refl _)] at this)
   clear ha
   go_wp2_with fail
   go_ret
   exact⟨by rw [←hA.out,hal.out];rfl,hB.out⟩
end
section
open Go.RowKit Go.Maps
structure Shp where
 dst:Int
 a:Int
 b:Int
 fn:Int
 low:Int
 high:Int
 args:Int
 labels:Int
def shapeN (op:Int):Option Shp:=
 if op=1∨op=2 then some ⟨2,0,0,0,1,64,0,0⟩ else if op=3 then some ⟨2,0,0,0,0,0,0,0⟩ else if op=4 then some ⟨2,0,0,2,0,0,0,0⟩
 else if op=5∨op=8 then some ⟨2,2,0,0,0,0,0,0⟩ else if op=6 then some ⟨2,0,0,0,0,0,-1,-1⟩ else if op=7 then some ⟨2,2,0,0,0,63,0,0⟩
 else if op=9 then some ⟨0,2,2,0,0,0,0,0⟩ else if op=10 then some ⟨1,0,0,2,0,0,-1,0⟩ else if op=11 then some ⟨1,2,0,0,0,0,-1,0⟩
 else if op=12 then some ⟨0,0,0,0,0,0,0,2⟩ else if op=13 then some ⟨0,0,0,0,0,0,0,1⟩ else if op=14 then some ⟨0,1,0,0,0,0,0,0⟩ else none
def shpA (s:Shp):Array Value:=#[.int .u8 s.dst,.int .u8 s.a,.int .u8 s.b,.int .u8 s.fn,.int .i64 s.low,.int .i64 s.high,.int .i64 s.args,.int .i64 s.labels]
theorem ops15 {op:Int}(h0:0≤op):(op=1∨op=2∨op=3∨op=4∨op=5∨op=6∨op=7∨op=8∨op=9∨op=10∨op=11∨op=12∨op=13∨op=14)∨(op=0∨14<op):=by omega
set_option maxHeartbeats 2000000 in
theorem shapeOf_some (op:Int)(s:Shp)(hs:shapeN op=some s)(w:World):Calls Tryz.prog 166 #[.int .u8 op] w fun e w'=>e=.returned (.tuple #[.agg (shpA s),.bool true])∧Below w.heap.size w w':=by
 have h:op=1∨op=2∨op=3∨op=4∨op=5∨op=6∨op=7∨op=8∨op=9∨op=10∨op=11∨op=12∨op=13∨op=14:=by
  unfold shapeN at hs
  repeat' split at hs
  all_goals first | omega | cases hs
 rcases h with rfl | rfl | rfl | rfl | rfl | rfl | rfl | rfl | rfl | rfl | rfl | rfl | rfl | rfl<;>(
  simp only [shapeN] at hs
  simp at hs
  subst hs
  go_enter Tryz.func166,Tryz.ntmps166
  go_wp2_with fail
  refine bodyPost_ret (by simp [results,Tryz.results166,go_sem,shpA]) rfl ⟨rfl,?_⟩
  exact (Below.refl _ _).alloc (Nat.le_refl _) _)
set_option maxHeartbeats 2000000 in
theorem shapeOf_none (op:Int)(h0:0≤op)(hs:shapeN op=none)(w:World):Calls Tryz.prog 166 #[.int .u8 op] w fun e w'=>e=.returned (.tuple #[.agg #[.int .u8 0,.int .u8 0,.int .u8 0,.int .u8 0,.int .i64 0,.int .i64 0,.int .i64 0,.int .i64 0],.bool false])∧Below w.heap.size w w':=by
 have h:op=0∨14<op:=by
  rcases ops15 h0 with h | h
  ·exfalso
   rcases h with rfl | rfl | rfl | rfl | rfl | rfl | rfl | rfl | rfl | rfl | rfl | rfl | rfl | rfl<;>simp [shapeN] at hs
  ·exact h
 clear hs
 have j1:(op==1)=false:=by simp;omega
 have j2:(op==2)=false:=by simp;omega
 have j3:(op==3)=false:=by simp;omega
 have j4:(op==4)=false:=by simp;omega
 have j5:(op==5)=false:=by simp;omega
 have j6:(op==6)=false:=by simp;omega
 have j7:(op==7)=false:=by simp;omega
 have j8:(op==8)=false:=by simp;omega
 have j9:(op==9)=false:=by simp;omega
 have j10:(op==10)=false:=by simp;omega
 have j11:(op==11)=false:=by simp;omega
 have j12:(op==12)=false:=by simp;omega
 have j13:(op==13)=false:=by simp;omega
 have j14:(op==14)=false:=by simp;omega
 clear h
 go_enter Tryz.func166,Tryz.ntmps166
 go_wp2_with fail
 refine bodyPost_ret (by simp [results,Tryz.results166,go_sem]) rfl ⟨rfl,?_⟩
 exact (Below.refl _ _).alloc (Nat.le_refl _) _
def missB (k:Int)(s:ByteArray):Bool:=(k==0&&!s.toList.isEmpty) || (k==2&&s.toList.isEmpty)
def misB (k n:Int):Bool:=(k != -1)&&(k != n)
theorem misses_any (k:Int)(s:ByteArray)(w:World):Calls Tryz.prog 169 #[.int .u8 k,.string s] w fun e w'=>e=.returned (.bool (missB k s))∧w'=w:=by
 unfold missB
 generalize h1:(k==0)=p
 generalize h2:(k==2)=q
 generalize h3:s.toList.isEmpty=r
 cases p<;>cases q<;>cases r<;>(go_enter Tryz.func169,Tryz.ntmps169;go_wp2;go_ret;exact⟨rfl,rfl⟩)
theorem miscounts_any (k n:Int)(w:World):Calls Tryz.prog 170 #[.int .i64 k,.int .i64 n] w fun e w'=>e=.returned (.bool (misB k n))∧w'=w:=by
 unfold misB
 generalize h1:(k != -1)=p
 generalize h2:(k != n)=q
 cases p<;>cases q<;>(go_enter Tryz.func170,Tryz.ntmps170;go_wp2;go_ret;exact⟨rfl,rfl⟩)
end
end Go.Proofs.YtknkiaedgeejiaaGreatDoor
