/- RfC5, RfS1, RfS2, RfP1. -/
import Derived.Test.YtgcanabckogmmaaDoorZR26
import Derived.Test.YtgcanabckogmmaaDoorZR11
import Derived.Deep.QuietTactic
import Derived.BigQuiet
namespace Go.Proofs.YtgcanabckogmmaaDoor
set_option linter.unusedVariables false
set_option linter.unusedSimpArgs false
section
open Go.RowKit Go.Maps Go.Shelf
attribute [local go_sem] Oper.semAt_some
section
variable {w w':World}
set_option maxRecDepth 20000 in
set_option maxHeartbeats 2000000 in
theorem refwrong_any (t:Tok):Calls Tryd.prog 23 #[tokV t] w fun e w'=>e=.returned (.tuple #[.agg #[.slice none 0 0],.agg #[.int .i64 t.line,.int .i64 t.col],.int .i64 (if t.kind=4 then 41 else 40)])∧Below w.heap.size w w':=by
 have g1:((t.kind:Int)==4)=(t.kind==4):=kindB _ 4
 obtain⟨x,hx⟩:∃x,(t.kind==4)=x:=⟨_,rfl⟩
 rw [hx] at g1
 have he:(if t.kind=4 then (41:Int) else 40)=if x then 41 else 40:=by
  rw [←hx]
  by_cases h:t.kind=4<;>simp [h]
 rw [he]
 clear he hx
 unfold tokV
 cases x with
 | false=>
  go_enter Tryd.func23,Tryd.ntmps23
  go_wp2_with fail
  go_region_with fail
  all_goals
   go_wp2_with fail
   exact bodyPost_ret (v:=.tuple #[.agg #[.slice none 0 0],.agg #[.int .i64 t.line,.int .i64 t.col],.int .i64 40]) (by simp [results,Tryd.results23,go_sem]) rfl ⟨rfl,((((Below.refl _ _).alloc (Nat.le_refl _) _).alloc (by simp) _).alloc (by simp;omega) _).drew⟩
 | true=>
  go_enter Tryd.func23,Tryd.ntmps23
  go_wp2_with fail
  go_region_with fail
  all_goals
   go_wp2_with fail
   exact bodyPost_ret (v:=.tuple #[.agg #[.slice none 0 0],.agg #[.int .i64 t.line,.int .i64 t.col],.int .i64 41]) (by simp [results,Tryd.results23,go_sem]) rfl ⟨rfl,((((Below.refl _ _).alloc (Nat.le_refl _) _).alloc (by simp) _).alloc (by simp;omega) _).drew⟩
theorem allocs_below:∀(l:List Obj) (w:World) (n:Nat),n≤w.heap.size→Below n w (l.foldl World.alloc w)
 | [],w,n,_=>Below.refl _ _
 | c::l,w,n,h=>((Below.refl n w).alloc h c).trans (allocs_below l (w.alloc c) n (Nat.le_trans h ((Below.refl n w).alloc h c).size))
theorem allocs_at:∀(l:List Obj) (w:World) (i:Nat) (c:Obj),l[i]?=some c→(l.foldl World.alloc w).heap[w.heap.size+i]?=some c
 | [],w,i,c,h=>by cases h
 | c0::l,w,0,c,h=>by
  obtain rfl:=Option.some.inj h
  have h1:=heap_alloc_new w c0
  have hl:w.heap.size<(w.alloc c0).heap.size:=by
   simp
  have h2:=(Touch.of_below (allocs_below l (w.alloc c0) _ (Nat.le_refl _)) (fun _=>False)).block w.heap.size hl (fun h=>h)
  exact h2.trans h1
 | c0::l,w,i+1,c,h=>by
  have:=allocs_at l (w.alloc c0) i c h
  rw [show (w.alloc c0).heap.size=w.heap.size+1 from by simp,Nat.add_assoc,Nat.add_comm 1 i] at this
  exact this
theorem stAt_of {b:Nat}{t:TypeId}{items:List (List UInt8)}(h:w.heap[b]?=some (.cells (items.map fun it=>Value.string ⟨it.toArray⟩).toArray t (0,0)))(hl:items.length≤100):StAt w b items:=
 ⟨fun j it hj=>by rw [blk_cell h];simp [hj],hl,by
  obtain⟨hlt,-⟩:=Array.getElem?_eq_some_iff.1 h
  exact hlt⟩
structure FmAt (w:World) (fb:Nat):Prop where
 at':∀(k:Nat) (f:FormR),formsR[k]?=some f→∃ib,w.cell? ⟨fb,k*2,none⟩=some (.int .u8 f.op)∧w.cell? ⟨fb,k*2+1,none⟩=some (.slice (some ⟨ib,0,none⟩) (itemsR f).length (itemsR f).length)∧StAt w ib (itemsR f)
 lt:fb<w.heap.size
theorem fm_of (L:List Obj)(w:World)(h16:16<L.length)(h:∀k f,formsR[k]?=some f→∃i t C t',L[16]?=some (.cells C t' (0,0))∧C[k*2]?=some (.int .u8 f.op)∧C[k*2+1]?=some (.slice (some ⟨w.heap.size+i,0,none⟩) (itemsR f).length (itemsR f).length)∧L[i]?=some (.cells ((itemsR f).map fun it=>Value.string ⟨it.toArray⟩).toArray t (0,0))∧(itemsR f).length≤100):FmAt (L.foldl World.alloc w) (w.heap.size+16):=by
 refine⟨fun k f hk=>?_,?_⟩
 ·obtain⟨i,t,C,t',h1,h2,h3,h4,h5⟩:=h k f hk
  exact⟨w.heap.size+i,(blk_cell (allocs_at L w 16 _ h1) _).trans h2,(blk_cell (allocs_at L w 16 _ h1) _).trans h3,stAt_of (allocs_at L w i _ h4) h5⟩
 ·obtain⟨hlt,-⟩:=Array.getElem?_eq_some_iff.1 (allocs_at L w 16 _ (List.getElem?_eq_getElem h16))
  exact hlt
set_option maxRecDepth 20000 in
set_option maxHeartbeats 4000000 in
theorem refforms_any:Calls Tryd.prog 24 #[] w fun e w'=>(∃fb,w.heap.size≤fb∧e=.returned (.slice (some ⟨fb,0,none⟩) 16 16)∧FmAt w' fb)∧Below w.heap.size w w':=by
 go_enter Tryd.func24,Tryd.ntmps24
 go_wp2_with fail
 refine bodyPost_ret (v:=.slice (some ⟨w.heap.size+16,0,none⟩) 16 16) (by simp [results,Tryd.results24,go_sem]) rfl ⟨⟨_,Nat.le_add_right _ _,rfl,?_⟩,?_⟩
 ·refine fm_of [_,_,_,_,_,_,_,_,_,_,_,_,_,_,_,_,_] w (by simp) fun k f hk=>?_
  match k,hk with
  | 0,hk=>obtain rfl:=Option.some.inj hk;exact⟨0,_,_,_,rfl,rfl,rfl,rfl,by decide⟩
  | 1,hk=>obtain rfl:=Option.some.inj hk;exact⟨1,_,_,_,rfl,rfl,rfl,rfl,by decide⟩
  | 2,hk=>obtain rfl:=Option.some.inj hk;exact⟨2,_,_,_,rfl,rfl,rfl,rfl,by decide⟩
  | 3,hk=>obtain rfl:=Option.some.inj hk;exact⟨3,_,_,_,rfl,rfl,rfl,rfl,by decide⟩
  | 4,hk=>obtain rfl:=Option.some.inj hk;exact⟨4,_,_,_,rfl,rfl,rfl,rfl,by decide⟩
  | 5,hk=>obtain rfl:=Option.some.inj hk;exact⟨5,_,_,_,rfl,rfl,rfl,rfl,by decide⟩
  | 6,hk=>obtain rfl:=Option.some.inj hk;exact⟨6,_,_,_,rfl,rfl,rfl,rfl,by decide⟩
  | 7,hk=>obtain rfl:=Option.some.inj hk;exact⟨7,_,_,_,rfl,rfl,rfl,rfl,by decide⟩
  | 8,hk=>obtain rfl:=Option.some.inj hk;exact⟨8,_,_,_,rfl,rfl,rfl,rfl,by decide⟩
  | 9,hk=>obtain rfl:=Option.some.inj hk;exact⟨9,_,_,_,rfl,rfl,rfl,rfl,by decide⟩
  | 10,hk=>obtain rfl:=Option.some.inj hk;exact⟨10,_,_,_,rfl,rfl,rfl,rfl,by decide⟩
  | 11,hk=>obtain rfl:=Option.some.inj hk;exact⟨11,_,_,_,rfl,rfl,rfl,rfl,by decide⟩
  | 12,hk=>obtain rfl:=Option.some.inj hk;exact⟨12,_,_,_,rfl,rfl,rfl,rfl,by decide⟩
  | 13,hk=>obtain rfl:=Option.some.inj hk;exact⟨13,_,_,_,rfl,rfl,rfl,rfl,by decide⟩
  | 14,hk=>obtain rfl:=Option.some.inj hk;exact⟨14,_,_,_,rfl,rfl,rfl,rfl,by decide⟩
  | 15,hk=>obtain rfl:=Option.some.inj hk;exact⟨15,_,_,_,rfl,rfl,rfl,rfl,by decide⟩
  | n+16,hk=>exact absurd hk (by show ¬([]:List FormR)[n]?=some f;simp)
 ·show Below w.heap.size w (List.foldl World.alloc w [_,_,_,_,_,_,_,_,_,_,_,_,_,_,_,_,_])
  exact allocs_below _ _ _ (Nat.le_refl _)
end
end
section
open Go.RowKit Go.Maps
section
variable {α:Type} {c:Nat} {R:World→List Value→α→Prop} {S S' No:Nat→Prop} {w w2 w':World} {L:List α} {flat:List Value}
def Els (c:Nat)(R:World→List Value→α→Prop)(S:Nat→Prop)(w:World)(L:List α)(flat:List Value):Prop:=
 flat.length=L.length*c∧∀i y,L[i]?=some y→∃cs,cs.length=c∧(∀j u,cs[j]?=some u→flat[i*c+j]?=some u)∧∀w',Touch w w' S→R w' cs y
theorem Els.nil (S:Nat→Prop)(w:World):Els c R S w ([]:List α) []:=⟨by simp,fun i y h=>by simp at h⟩
theorem Els.move (h:Els c R S w L flat)(t:Touch w w2 No)(hn:∀k,k<w.heap.size→No k→S k)(hs:∀k,k<w.heap.size→S' k→S k):Els c R S' w2 L flat:=
 ⟨h.1,fun i y hy=>by
  obtain⟨cs,k1,k2,k3⟩:=h.2 i y hy
  exact⟨cs,k1,k2,fun w' t'=>k3 w' ((t.mono hn).then t' hs)⟩⟩
theorem Els.snoc {y:α}{cs:List Value}(h:Els c R S w L flat)(hc:cs.length=c)(hr:∀w',Touch w w' S→R w' cs y):Els c R S w (L++[y]) (flat++cs):=by
 obtain⟨h1,h2⟩:=h
 refine⟨by rw [List.length_append,List.length_append,List.length_singleton,h1,hc,Nat.succ_mul],fun i d hi=>?_⟩
 rcases Nat.lt_or_ge i L.length with hlt | hge
 ·rw [List.getElem?_append_left hlt] at hi
  obtain⟨cs',k1,k2,k3⟩:=h2 i d hi
  refine⟨cs',k1,fun j u hj=>?_,k3⟩
  have:=k2 j u hj
  rw [List.getElem?_append_left (List.getElem?_eq_some_iff.1 this).1]
  exact this
 ·have hi2:i=L.length:=by have:=(List.getElem?_eq_some_iff.1 hi).1;simp at this;omega
  subst hi2
  rw [List.getElem?_append_right (Nat.le_refl _),Nat.sub_self] at hi
  simp only [List.getElem?_cons_zero,Option.some.injEq] at hi
  subst hi
  refine⟨cs,hc,fun j u hj=>?_,hr⟩
  rw [List.getElem?_append_right (by omega),show L.length*c+j-flat.length=j by omega]
  exact hj
theorem Els.own {base:Nat}{e:TypeId}{v:Value}(h:Els c R S w L flat)(ho:w.ownsRow base e c v L.length flat)(t:Touch w w' No)(hv:∀g,v.ownBlock=some g→¬No g)(hs:∀k,k<w.heap.size→No k→S k):OwnE c R w' base e v L:=
 ⟨flat,ownsRow_touch ho t hv,fun i d hi=>by
  obtain⟨cs,k1,k2,k3⟩:=h.2 i d hi
  exact⟨cs,k3 w' (t.mono hs),k1,k2⟩⟩
end
def Sx (B:Nat)(vF vb vc:Value)(k:Nat):Prop:=vc.ownBlock=some k∨(k<B∨vF.ownBlock=some k∨vb.ownBlock=some k)
structure Cl (B bp:Nat) (w:World) (acc:List Fun) (vF:Value):Prop where
 box:w.heap[bp]?=some (.cells #[vF] 24 (0,0))
 row:∃flat,w.ownsRow B 43 3 vF acc.length flat∧Els 3 RdFunU (fun k=>k<B∨vF.ownBlock=some k) w acc flat
 lt:bp<B
 top:B≤w.heap.size
structure Op (B bp:Nat) (w:World) (acc:List Fun) (d:Fun) (vF vp vb vc:Value):Prop where
 box:w.heap[bp]?=some (.cells #[vF] 24 (0,0))
 fs:∃flat,w.ownsRow B 43 3 vF (acc.length+1) (flat++[.string d.name,vp,vb])∧Els 3 RdFunU (Sx B vF vb vc) w acc flat
 par:∀w',Touch w w' (Sx B vF vb vc)→RdS w' vp d.params∧Fz w' vp
 bls:(d.blocks=[]∧vb=.slice none 0 0∧vc=.slice none 0 0)∨∃bs x flat xs,d.blocks=bs++[x]∧w.ownsRow B 46 2 vb (bs.length+1) (flat++[.string x.label,vc])∧Els 2 RdBlkU (Sx B vF vb vc) w bs flat∧w.ownsRow B 49 8 vc x.code.length xs∧Els 8 RdInsU (Sx B vF vb vc) w x.code xs
 nF:∀g,vF.ownBlock=some g→¬vb.ownBlock=some g∧¬vc.ownBlock=some g
 nb:∀g,vb.ownBlock=some g→¬vc.ownBlock=some g
 lt:bp<B
 top:B≤w.heap.size
section
variable {B bp:Nat} {w w2 w5 w7:World} {acc:List Fun} {d:Fun} {vF vp vb vc:Value} {No:Nat→Prop}
theorem Cl.keep (h:Cl B bp w acc vF)(t:Touch w w2 No)(hn:∀k,k<w.heap.size→No k→k<B∧k≠bp):Cl B bp w2 acc vF:=by
 obtain⟨flat,r1,r2⟩:=h.row
 have htop:=h.top
 have hlt:=h.lt
 exact⟨(t.block bp (by omega) (fun e=>(hn bp (by omega) e).2 rfl)).trans h.box,⟨flat,ownsRow_touch r1 t (fun g hg e=>by have:=r1.lt g hg;have:=(hn g (by omega) e).1;omega),r2.move t (fun k hk e=>.inl (hn k hk e).1) (fun k _ e=>e)⟩,hlt,Nat.le_trans htop t.size⟩
theorem Op.keep (h:Op B bp w acc d vF vp vb vc)(t:Touch w w2 No)(hn:∀k,k<w.heap.size→No k→k<B∧k≠bp):Op B bp w2 acc d vF vp vb vc:=by
 obtain⟨flat,r1,r2⟩:=h.fs
 have htop:=h.top
 have hlt:=h.lt
 have hoff:∀{v:Value} {e:TypeId} {c n:Nat} {xs:List Value},w.ownsRow B e c v n xs→w2.ownsRow B e c v n xs:=fun r=>ownsRow_touch r t (fun g hg e=>by have:=r.lt g hg;have:=(hn g (by omega) e).1;omega)
 have hsub:∀k,k<w.heap.size→No k→Sx B vF vb vc k:=fun k hk e=>.inr (.inl (hn k hk e).1)
 refine⟨(t.block bp (by omega) (fun e=>(hn bp (by omega) e).2 rfl)).trans h.box,⟨flat,hoff r1,r2.move t hsub (fun k _ e=>e)⟩,fun w' t'=>h.par w' ((t.mono hsub).then t' (fun k _ e=>e)),?_,h.nF,h.nb,hlt,Nat.le_trans htop t.size⟩
 rcases h.bls with e | ⟨bs,x,fl,xs,e1,e2,e3,e4,e5⟩
 ·exact .inl e
 ·exact .inr ⟨bs,x,fl,xs,e1,hoff e2,e3.move t hsub (fun k _ e=>e),hoff e4,e5.move t hsub (fun k _ e=>e)⟩
theorem row_formS {W:World}{base e size:Nat}{v:Value}{n:Nat}{xs:List Value}(h:W.ownsRow base e size v n xs):∃a cap,v=.slice a n cap:=by
 rcases h.2 with ⟨rfl,rfl⟩ | ⟨g,cap,cur,rfl,-⟩
 ·exact⟨none,0,rfl⟩
 ·exact⟨_,_,rfl⟩
theorem own_frozen {W:World}{base e size g n c:Nat}{xs:List Value}(h:W.ownsRow base e size (.slice (some ⟨g,0,none⟩) n c) n xs)(j:Nat):W.frozen? ⟨g,j,none⟩=false:=by
 rcases h.2 with ⟨e3,-⟩ | ⟨g',cap',cur,e3,-,h2,-⟩
 ·cases e3
 ·simp only [Value.slice.injEq,Option.some.injEq,Addr.mk.injEq] at e3
  obtain⟨⟨rfl,-⟩,-⟩:=e3
  simp [World.frozen?,h2]
theorem Cl.form (h:Cl B bp w acc vF):∃a cap,vF=.slice a acc.length cap∧w.cell? ⟨bp,0,none⟩=some vF∧w.frozen? ⟨bp,0,none⟩=false:=by
 obtain⟨flat,r1,-⟩:=h.row
 obtain⟨a,cap,e⟩:=row_formS r1
 exact⟨a,cap,e,by rw [blk_cell h.box];rfl,by simp [World.frozen?,h.box]⟩
theorem Op.form (h:Op B bp w acc d vF vp vb vc):∃gf cap ab cb,vF=.slice (some ⟨gf,0,none⟩) (acc.length+1) cap∧vb=.slice ab d.blocks.length cb∧w.cell? ⟨bp,0,none⟩=some vF∧w.frozen? ⟨bp,0,none⟩=false∧w.cell? ⟨gf,acc.length*3+2,none⟩=some vb∧w.frozen? ⟨gf,acc.length*3+2,none⟩=false∧B≤gf∧gf<w.heap.size:=by
 obtain⟨flat,r1,r2⟩:=h.fs
 obtain⟨gf,cap,e⟩:=row_form r1 (Nat.succ_pos _)
 subst e
 have hc:=r1.cells (g:=gf) rfl (acc.length*3+2) vb (by rw [List.getElem?_append_right (by have:=r2.1;omega),show acc.length*3+2-flat.length=2 by have:=r2.1;omega];rfl)
 rw [add0] at hc
 have hlt:=r1.lt gf rfl
 have hb:∃ab cb,vb=.slice ab d.blocks.length cb:=by
  rcases h.bls with ⟨e1,e2,-⟩ | ⟨bs,x,fl,xs,e1,e2,-⟩
  ·exact⟨none,0,by rw [e2,e1];rfl⟩
  ·obtain⟨a,c,e⟩:=row_formS e2
   exact⟨a,c,by rw [e,e1];simp⟩
 obtain⟨ab,cb,e⟩:=hb
 exact⟨gf,cap,ab,cb,rfl,e,by rw [blk_cell h.box];rfl,by simp [World.frozen?,h.box],hc,own_frozen r1 _,hlt.1,hlt.2⟩
theorem rdb_nil (w:World):REU 2 RdBlkU w (.slice none 0 0) []:=⟨.inl ⟨rfl,.inl rfl⟩,fz_nil w⟩
theorem Op.close (h:Op B bp w acc d vF vp vb vc):Cl B bp w (acc++[d]) vF:=by
 obtain⟨flat,r1,r2⟩:=h.fs
 have hsub:∀k,k<w.heap.size→(k<B∨vF.ownBlock=some k)→Sx B vF vb vc k:=fun k _ e=>by
  rcases e with e | e
  ·exact .inr (.inl e)
  ·exact .inr (.inr (.inl e))
 refine⟨h.box,⟨flat++[.string d.name,vp,vb],by rw [List.length_append,List.length_singleton];exact r1,(r2.move (Touch.refl w (fun _=>False)) (fun _ _ e=>e.elim) hsub).snoc rfl fun w' t=>⟨vp,vb,rfl,h.par w' (t.mono hsub),?_⟩⟩,h.lt,h.top⟩
 rcases h.bls with ⟨e1,e2,-⟩ | ⟨bs,x,fl,xs,e1,e2,e3,e4,e5⟩
 ·rw [e1,e2]
  exact rdb_nil w'
 ·rw [e1]
  have hoff:∀g,vb.ownBlock=some g→¬(g<B∨vF.ownBlock=some g):=fun g hg e=>by
   rcases e with e | e
   ·have:=(e2.lt g hg).1;omega
   ·exact (h.nF g e).1 hg
  have hoffc:∀g,vc.ownBlock=some g→¬(g<B∨vF.ownBlock=some g):=fun g hg e=>by
   rcases e with e | e
   ·have:=(e4.lt g hg).1;omega
   ·exact (h.nF g e).2 hg
  have E:=(e3.move (S':=fun k=>k<B∨vF.ownBlock=some k) (Touch.refl w (fun _=>False)) (fun _ _ e=>e.elim) hsub).snoc (y:=x) (cs:=[.string x.label,vc]) rfl (fun w'' t''=>⟨vc,rfl,(e5.own e4 t'' hoffc hsub).rdu⟩)
  exact (E.own (by rw [List.length_append,List.length_singleton];exact e2) t hoff (fun k _ e=>e)).rdu
end
end
section
open Go.RowKit Go.Maps
theorem addCode_end:∀(bs:List Blk) (x:Blk) (y:Ins),addCode (bs++[x]) y=bs++[{x with code:=x.code++[y]}]
 | [],x,y=>rfl
 | [b],x,y=>rfl
 | b::c::bs,x,y=>by
  show b::addCode (c::bs++[x]) y=_
  rw [addCode_end (c::bs) x y]
  rfl
section
variable {B bp:Nat} {w:World} {acc:List Fun} {d:Fun} {vF vp vb vc:Value}
theorem Cl.opens (h:Cl B bp w acc vF):∃xs,w.ownsRow B 43 3 vF acc.length xs∧∀(o:Obj) (w7:World) (gg cap:Nat) (nm:ByteArray) (ps:List ByteArray) (vp:Value),(w.alloc o).grownBy w7 vF.ownBlock→w7.ownsRow B 43 3 (.slice (some ⟨gg,0,none⟩) (acc.length+1) cap) (acc.length+1) (xs++[.string nm,vp,.slice none 0 0])→(vF.ownBlock=some gg∨gg=w.heap.size+1)→(∀w'',Touch w w'' (fun k=>k<B∨vF.ownBlock=some k)→RdS w'' vp ps∧Fz w'' vp)→
  Op B bp (w7.setCell ⟨bp,0,none⟩ (.slice (some ⟨gg,0,none⟩) (acc.length+1) cap)) acc ⟨nm,ps,[]⟩ (.slice (some ⟨gg,0,none⟩) (acc.length+1) cap) vp (.slice none 0 0) (.slice none 0 0)∧Touch w (w7.setCell ⟨bp,0,none⟩ (.slice (some ⟨gg,0,none⟩) (acc.length+1) cap)) (fun k=>k=bp∨B≤k)∧w7.cell? ⟨bp,0,none⟩=some vF∧w7.frozen? ⟨bp,0,none⟩=false:=by
 obtain⟨xs,r1,r2⟩:=h.row
 have hlt:=h.lt
 have htop:=h.top
 refine⟨xs,r1,fun o w7 gg cap nm ps vp hg hO hat hp=>?_⟩
 have hvF:∀k,vF.ownBlock=some k→B≤k:=fun k e=>(r1.lt k e).1
 have t3:Touch w w7 (fun k=>vF.ownBlock=some k):=((Touch.refl w _).alloc o).trans (Touch.of_grown hg (fun k e=>e))
 have t4:Touch w7 (w7.setCell ⟨bp,0,none⟩ (.slice (some ⟨gg,0,none⟩) (acc.length+1) cap)) (fun k=>k=bp):=(Touch.refl w7 (fun k=>k=bp)).setCell (a:=⟨bp,0,none⟩) (fun _=>rfl) _
 have tt:Touch w (w7.setCell ⟨bp,0,none⟩ (.slice (some ⟨gg,0,none⟩) (acc.length+1) cap)) (fun k=>vF.ownBlock=some k∨k=bp):=(t3.mono (fun _ _ e=>.inl e)).trans (t4.mono (fun _ _ e=>.inr e))
 have b3:=(t3.block bp (by omega) (fun e=>by have:=hvF _ e;omega)).trans h.box
 have hgB:=(hO.lt gg rfl).1
 have hsub:∀k,k<w.heap.size→Sx B (.slice (some ⟨gg,0,none⟩) (acc.length+1) cap) (.slice none 0 0) (.slice none 0 0) k→(k<B∨vF.ownBlock=some k):=fun k hk e=>by
  rcases e with e | e | e | e
  ·simp [Value.ownBlock] at e
  ·exact .inl e
  ·simp only [Value.ownBlock,Option.some.injEq] at e
   rcases hat with e2 | e2
   ·exact .inr (e ▸ e2)
   ·omega
  ·simp [Value.ownBlock] at e
 have hsub2:∀k,k<w.heap.size→(vF.ownBlock=some k∨k=bp)→(k<B∨vF.ownBlock=some k):=fun k _ e=>by
  rcases e with e | e
  ·exact .inr e
  ·exact .inl (by omega)
 refine⟨⟨blk_set (i:=0) _ b3,⟨xs,ownsRow_touch hO t4 (fun g hg e=>by simp only [Value.ownBlock,Option.some.injEq] at hg;omega),r2.move tt hsub2 hsub⟩,fun w' t'=>hp w' ((tt.mono hsub2).then t' hsub),.inl ⟨rfl,rfl,rfl⟩,fun g _=>⟨fun e=>by simp [Value.ownBlock] at e,fun e=>by simp [Value.ownBlock] at e⟩,fun g e=>by simp [Value.ownBlock] at e,hlt,Nat.le_trans htop tt.size⟩,tt.mono (fun k _ e=>by rcases e with e | e;exact .inr (hvF k e);exact .inl e),?_,?_⟩
 ·rw [blk_cell b3];rfl
 ·simp [World.frozen?,b3]
theorem Op.block {gf capF:Nat}(h:Op B bp w acc d (.slice (some ⟨gf,0,none⟩) (acc.length+1) capF) vp vb vc)(s:ByteArray):∃xs,w.ownsRow B 46 2 vb d.blocks.length xs∧∀(o:Obj) (w7:World) (gg cap:Nat),(w.alloc o).grownBy w7 vb.ownBlock→w7.ownsRow B 46 2 (.slice (some ⟨gg,0,none⟩) (d.blocks.length+1) cap) (d.blocks.length+1) (xs++[.string s,.slice none 0 0])→(vb.ownBlock=some gg∨gg=w.heap.size+1)→
  Op B bp (w7.setCell ⟨gf,acc.length*3+2,none⟩ (.slice (some ⟨gg,0,none⟩) (d.blocks.length+1) cap)) acc (addB d s) (.slice (some ⟨gf,0,none⟩) (acc.length+1) capF) vp (.slice (some ⟨gg,0,none⟩) (d.blocks.length+1) cap) (.slice none 0 0)∧Touch w (w7.setCell ⟨gf,acc.length*3+2,none⟩ (.slice (some ⟨gg,0,none⟩) (d.blocks.length+1) cap)) (fun k=>k=bp∨B≤k)∧w7.cell? ⟨gf,acc.length*3+2,none⟩=some vb∧w7.frozen? ⟨gf,acc.length*3+2,none⟩=false∧w7.cell? ⟨bp,0,none⟩=some (.slice (some ⟨gf,0,none⟩) (acc.length+1) capF):=by
 obtain⟨flat,r1,r2⟩:=h.fs
 have hlt:=h.lt
 have htop:=h.top
 have hgf:=r1.lt gf rfl
 have key:∃xs,w.ownsRow B 46 2 vb d.blocks.length xs∧Els 2 RdBlkU (fun k=>k<B∨(Value.slice (some ⟨gf,0,none⟩) (acc.length+1) capF).ownBlock=some k∨vb.ownBlock=some k) w d.blocks xs:=by
  rcases h.bls with ⟨e1,e2,-⟩ | ⟨bs,x,fl,xs,e1,e2,e3,e4,e5⟩
  ·rw [e1,e2]
   exact⟨[],World.ownsRow_nil _ _ _ _,Els.nil _ _⟩
  ·rw [e1]
   refine⟨_,by rw [List.length_append,List.length_singleton];exact e2,(e3.move (Touch.refl w (fun _=>False)) (fun _ _ e=>e.elim) (fun k _ e=>.inr e)).snoc rfl fun w' t=>⟨vc,rfl,(e5.own e4 t (fun g hg e=>?_) (fun k _ e=>.inr e)).rdu⟩⟩
   rcases e with e | e | e
   ·have:=(e4.lt g hg).1;omega
   ·exact (h.nF g e).2 hg
   ·exact h.nb g e hg
 obtain⟨xs,q1,q2⟩:=key
 refine⟨xs,q1,fun o w7 gg cap hg hO hat=>?_⟩
 have hvb:∀k,vb.ownBlock=some k→B≤k:=fun k e=>(q1.lt k e).1
 have t3:Touch w w7 (fun k=>vb.ownBlock=some k):=((Touch.refl w _).alloc o).trans (Touch.of_grown hg (fun k e=>e))
 have t4:Touch w7 (w7.setCell ⟨gf,acc.length*3+2,none⟩ (.slice (some ⟨gg,0,none⟩) (d.blocks.length+1) cap)) (fun k=>k=gf):=(Touch.refl w7 (fun k=>k=gf)).setCell (a:=⟨gf,acc.length*3+2,none⟩) (fun _=>rfl) _
 have tt:Touch w (w7.setCell ⟨gf,acc.length*3+2,none⟩ (.slice (some ⟨gg,0,none⟩) (d.blocks.length+1) cap)) (fun k=>vb.ownBlock=some k∨k=gf):=(t3.mono (fun _ _ e=>.inl e)).trans (t4.mono (fun _ _ e=>.inr e))
 have b3:=(t3.block bp (by omega) (fun e=>by have:=hvb _ e;omega)).trans h.box
 have r13:=ownsRow_touch r1 t3 (fun g hg e=>(h.nF g hg).1 e)
 have hst:=(r13.stored (acc.length*3+2) (.slice (some ⟨gg,0,none⟩) (d.blocks.length+1) cap)).1
 have hfl:=r2.1
 have hset:(flat++[.string d.name,vp,vb]).set (acc.length*3+2) (.slice (some ⟨gg,0,none⟩) (d.blocks.length+1) cap)=flat++[.string d.name,vp,.slice (some ⟨gg,0,none⟩) (d.blocks.length+1) cap]:=by
  rw [List.set_append_right _ _ (by omega),show acc.length*3+2-flat.length=2 by omega]
  rfl
 rw [hset] at hst
 have hggf:gg≠gf:=by
  rintro rfl
  rcases hat with e | e
  ·exact (h.nF gg rfl).1 e
  ·omega
 have hsub:∀k,k<w.heap.size→Sx B (.slice (some ⟨gf,0,none⟩) (acc.length+1) capF) (.slice (some ⟨gg,0,none⟩) (d.blocks.length+1) cap) (.slice none 0 0) k→(k<B∨(Value.slice (some ⟨gf,0,none⟩) (acc.length+1) capF).ownBlock=some k∨vb.ownBlock=some k):=fun k hk e=>by
  rcases e with e | e | e | e
  ·simp [Value.ownBlock] at e
  ·exact .inl e
  ·exact .inr (.inl e)
  ·simp only [Value.ownBlock,Option.some.injEq] at e
   rcases hat with e2 | e2
   ·exact .inr (.inr (e ▸ e2))
   ·omega
 have hsub2:∀k,k<w.heap.size→(vb.ownBlock=some k∨k=gf)→(k<B∨(Value.slice (some ⟨gf,0,none⟩) (acc.length+1) capF).ownBlock=some k∨vb.ownBlock=some k):=fun k _ e=>by
  rcases e with e | e
  ·exact .inr (.inr e)
  ·exact .inr (.inl (by rw [e];rfl))
 refine⟨⟨(t4.block bp (by have:=t3.size;omega) (by omega)).trans b3,⟨flat,hst,r2.move tt (fun k hk e=>.inr (hsub2 k hk e)) (fun k hk e=>.inr (hsub k hk e))⟩,fun w' t'=>h.par w' ((tt.mono (fun k hk e=>.inr (hsub2 k hk e))).then t' (fun k hk e=>.inr (hsub k hk e))),.inr ⟨d.blocks,⟨s,[]⟩,xs,[],rfl,ownsRow_touch hO t4 (fun g hg e=>by simp only [Value.ownBlock,Option.some.injEq] at hg;omega),q2.move tt hsub2 hsub,World.ownsRow_nil _ _ _ _,Els.nil _ _⟩,fun g hg=>⟨fun e=>?_,fun e=>by simp [Value.ownBlock] at e⟩,fun g _ e=>by simp [Value.ownBlock] at e,hlt,Nat.le_trans htop tt.size⟩,tt.mono (fun k _ e=>by rcases e with e | e;exact .inr (hvb k e);exact .inr (by omega)),?_,own_frozen r13 _,by rw [blk_cell b3];rfl⟩
 ·simp only [Value.ownBlock,Option.some.injEq] at hg e
  omega
 ·have hc:=r13.cells (g:=gf) rfl (acc.length*3+2) vb (by rw [List.getElem?_append_right (by omega),show acc.length*3+2-flat.length=2 by omega];rfl)
  rwa [add0] at hc
theorem Op.code (h:Op B bp w acc d vF vp vb vc)(hd:d.blocks≠[]):∃gb capb m ac n cc xs,vb=.slice (some ⟨gb,0,none⟩) (m+1) capb∧d.blocks.length=m+1∧vc=.slice ac n cc∧(∃x∈d.blocks,n=x.code.length)∧B≤gb∧gb<w.heap.size∧w.cell? ⟨gb,m*2+1,none⟩=some vc∧∀w5,Below w.heap.size w w5→w5.ownsRow B 49 8 vc n xs∧w5.cell? ⟨gb,m*2+1,none⟩=some vc∧
  ∀(o:Obj) (w7:World) (gg cap:Nat) (y:Ins) (va vl:Value),(w5.alloc o).grownBy w7 vc.ownBlock→w7.ownsRow B 49 8 (.slice (some ⟨gg,0,none⟩) (n+1) cap) (n+1) (xs++insV y va vl)→(vc.ownBlock=some gg∨gg=w5.heap.size+1)→(∀w'',Touch w5 w'' (fun k=>k<w.heap.size)→RdInsU w'' (insV y va vl) y)→
   Op B bp (w7.setCell ⟨gb,m*2+1,none⟩ (.slice (some ⟨gg,0,none⟩) (n+1) cap)) acc (addI d y) vF vp vb (.slice (some ⟨gg,0,none⟩) (n+1) cap)∧Touch w5 (w7.setCell ⟨gb,m*2+1,none⟩ (.slice (some ⟨gg,0,none⟩) (n+1) cap)) (fun k=>k=bp∨B≤k)∧w7.cell? ⟨gb,m*2+1,none⟩=some vc∧w7.frozen? ⟨gb,m*2+1,none⟩=false:=by
 rcases h.bls with ⟨e1,-,-⟩ | ⟨bs,x,fl,xs,e1,e2,e3,e4,e5⟩
 ·exact absurd e1 hd
 obtain⟨gb,capb,e⟩:=row_form e2 (Nat.succ_pos _)
 subst e
 obtain⟨ac,cc,hvc⟩:=row_formS e4
 have hgb:=e2.lt gb rfl
 have htop:=h.top
 have hcell:=e2.cells (g:=gb) rfl (bs.length*2+1) vc (by rw [List.getElem?_append_right (by have:=e3.1;omega),show bs.length*2+1-fl.length=1 by have:=e3.1;omega];rfl)
 rw [add0] at hcell
 refine⟨gb,capb,bs.length,ac,x.code.length,cc,xs,rfl,by rw [e1];simp,hvc,⟨x,by rw [e1];exact List.mem_append.2 (.inr (List.mem_singleton.2 rfl)),rfl⟩,hgb.1,hgb.2,hcell,fun w5 hb=>?_⟩
 have t5:Touch w w5 (fun _=>False):=Touch.of_below hb _
 have hX:=h.keep t5 (fun _ _ e=>e.elim)
 have keep:∀{v:Value} {e:TypeId} {c n:Nat} {xs:List Value},w.ownsRow B e c v n xs→w5.ownsRow B e c v n xs:=fun r=>ownsRow_touch r t5 (fun _ _ e=>e)
 replace e2:=keep e2
 replace e4:=keep e4
 replace e3:=e3.move t5 (fun _ _ e=>e.elim) (fun _ _ e=>e)
 replace e5:=e5.move t5 (fun _ _ e=>e.elim) (fun _ _ e=>e)
 have hc5:=e2.cells (g:=gb) rfl (bs.length*2+1) vc (by rw [List.getElem?_append_right (by have:=e3.1;omega),show bs.length*2+1-fl.length=1 by have:=e3.1;omega];rfl)
 rw [add0] at hc5
 refine⟨e4,hc5,fun o w7 gg cap y va vl hg hO hat hy=>?_⟩
 have hle:=hb.size
 have hvcB:∀k,vc.ownBlock=some k→B≤k∧k<w.heap.size:=fun k ek=>by
  have r:=h.bls
  rcases r with ⟨r1,-,-⟩ | ⟨_,_,_,_,_,_,_,r4,_⟩
  ·exact absurd r1 hd
  ·exact r4.lt k ek
 have hvFw:∀k,vF.ownBlock=some k→k<w.heap.size:=fun k ek=>by
  obtain⟨_,r,_⟩:=h.fs
  exact (r.lt k ek).2
 have t3:Touch w5 w7 (fun k=>vc.ownBlock=some k):=((Touch.refl w5 _).alloc o).trans (Touch.of_grown hg (fun k e=>e))
 have t4:Touch w7 (w7.setCell ⟨gb,bs.length*2+1,none⟩ (.slice (some ⟨gg,0,none⟩) (x.code.length+1) cap)) (fun k=>k=gb):=(Touch.refl w7 (fun k=>k=gb)).setCell (a:=⟨gb,bs.length*2+1,none⟩) (fun _=>rfl) _
 have tt:Touch w5 (w7.setCell ⟨gb,bs.length*2+1,none⟩ (.slice (some ⟨gg,0,none⟩) (x.code.length+1) cap)) (fun k=>vc.ownBlock=some k∨k=gb):=(t3.mono (fun _ _ e=>.inl e)).trans (t4.mono (fun _ _ e=>.inr e))
 have hlt:=h.lt
 obtain⟨flF,r1,r2⟩:=hX.fs
 have b3:=(t3.block bp (by omega) (fun e=>by have:=(hvcB _ e).1;omega)).trans hX.box
 have hneb:¬vc.ownBlock=some gb:=h.nb gb rfl
 have hggb:gg≠gb:=by
  rintro rfl
  rcases hat with e | e
  ·exact hneb e
  ·omega
 have e23:=ownsRow_touch e2 t3 (fun g hg e=>h.nb g hg e)
 have hst:=(e23.stored (bs.length*2+1) (.slice (some ⟨gg,0,none⟩) (x.code.length+1) cap)).1
 have hfl:=e3.1
 have hset:(fl++[.string x.label,vc]).set (bs.length*2+1) (.slice (some ⟨gg,0,none⟩) (x.code.length+1) cap)=fl++[.string x.label,.slice (some ⟨gg,0,none⟩) (x.code.length+1) cap]:=by
  rw [List.set_append_right _ _ (by omega),show bs.length*2+1-fl.length=1 by omega]
  rfl
 rw [hset] at hst
 have hc7:=e23.cells (g:=gb) rfl (bs.length*2+1) vc (by rw [List.getElem?_append_right (by omega),show bs.length*2+1-fl.length=1 by omega];rfl)
 rw [add0] at hc7
 have hsub:∀k,k<w5.heap.size→Sx B vF (.slice (some ⟨gb,0,none⟩) (bs.length+1) capb) (.slice (some ⟨gg,0,none⟩) (x.code.length+1) cap) k→Sx B vF (.slice (some ⟨gb,0,none⟩) (bs.length+1) capb) vc k:=fun k hk e=>by
  rcases e with e | e
  ·simp only [Value.ownBlock,Option.some.injEq] at e
   rcases hat with e2 | e2
   ·exact .inl (e ▸ e2)
   ·omega
  ·exact .inr e
 have hsub2:∀k,k<w5.heap.size→(vc.ownBlock=some k∨k=gb)→Sx B vF (.slice (some ⟨gb,0,none⟩) (bs.length+1) capb) vc k:=fun k _ e=>by
  rcases e with e | e
  ·exact .inl e
  ·exact .inr (.inr (.inr (by rw [e];rfl)))
 have hlow:∀k,Sx B vF (.slice (some ⟨gb,0,none⟩) (bs.length+1) capb) vc k→k<w.heap.size:=fun k e=>by
  rcases e with e | e | e | e
  ·exact (hvcB k e).2
  ·omega
  ·exact hvFw k e
  ·simp only [Value.ownBlock,Option.some.injEq] at e
   omega
 refine⟨⟨(t4.block bp (by have:=t3.size;omega) (by omega)).trans b3,⟨flF,?_,r2.move tt hsub2 hsub⟩,fun w' t'=>hX.par w' ((tt.mono hsub2).then t' hsub),.inr ⟨bs,{x with code:=x.code++[y]},fl,xs++insV y va vl,?_,hst,e3.move tt hsub2 hsub,?_,?_⟩,fun g hg=>⟨(h.nF g hg).1,fun e=>?_⟩,fun g hg e=>?_,hlt,Nat.le_trans hX.top tt.size⟩,tt.mono (fun k _ e=>by rcases e with e | e;exact .inr (hvcB k e).1;exact .inr (by omega)),hc7,own_frozen e23 _⟩
 ·exact ownsRow_touch r1 tt (fun g hg e=>by
   rcases e with e | e
   ·exact (h.nF g hg).2 e
   ·exact (h.nF g hg).1 (by rw [e];rfl))
 ·show addCode d.blocks y=_
  rw [e1]
  exact addCode_end bs x y
 ·rw [List.length_append,List.length_singleton]
  exact ownsRow_touch hO t4 (fun g hg e=>by simp only [Value.ownBlock,Option.some.injEq] at hg;omega)
 ·exact (e5.move (S':=Sx B vF (.slice (some ⟨gb,0,none⟩) (bs.length+1) capb) (.slice (some ⟨gg,0,none⟩) (x.code.length+1) cap)) tt hsub2 hsub).snoc rfl (fun w' t'=>hy w' (((tt.mono hsub2).then t' hsub).mono (fun k _ e=>hlow k e)))
 ·simp only [Value.ownBlock,Option.some.injEq] at e
  subst e
  rcases hat with e2 | e2
  ·exact (h.nF gg hg).2 e2
  ·have:=hvFw gg hg;omega
 ·simp only [Value.ownBlock,Option.some.injEq] at hg e
  omega
end
end
section
open Go.RowKit Go.Maps Go.Shelf
attribute [local go_sem] Oper.semAt_some fld0 fld1 fld2
section
variable {w w':World} {g o:Nat} {p q r:List Tok} {No:Nat→Prop}
theorem PcAt.touch (h:PcAt w g o p)(t:Touch w w' No)(hn:¬No g):PcAt w' g o p:=
 ⟨fun k u hu=>by
  obtain⟨h0,h1,h2,h3,h4⟩:=h.toks k u hu
  have hc:∀o u,w.cell? ⟨g,o,none⟩=some u→w'.cell? ⟨g,o,none⟩=some u:=fun o u hu=>by
   rw [←hu]
   unfold World.cell?
   rw [t.block g h.lt hn]
  exact⟨hc _ _ h0,hc _ _ h1,hc _ _ h2,hc _ _ h3,hc _ _ h4⟩,h.len,h.off,h.kind,Nat.lt_of_lt_of_le h.lt t.size⟩
theorem PcAt.sub (h:PcAt w g 0 (q++p++r)):PcAt w g (q.length*5) p:=
 ⟨fun k u hu=>by
  have h2:(q++p++r)[q.length+k]?=some u:=by
   rw [List.append_assoc,List.getElem?_append_right (by omega),Nat.add_sub_cancel_left,List.getElem?_append_left (List.getElem?_eq_some_iff.1 hu).1]
   exact hu
  have h3:=h.toks _ u h2
  rw [Nat.zero_add,Nat.add_mul] at h3
  exact h3,by have:=h.len;simp only [List.length_append] at this;omega,by have:=h.len;simp only [List.length_append] at this;omega,fun u hu=>h.kind u (by simp [hu]),h.lt⟩
theorem tw_at (f:Tok→Bool):∀(r:List Tok) (j:Nat) (u:Tok),r[j]?=some u→(j<(r.takeWhile f).length→f u=true)∧(j=(r.takeWhile f).length→f u=false)
 | [],j,u,h=>by simp at h
 | x::r,j,u,h=>by
  rw [List.takeWhile_cons]
  cases hx:f x with
  | false=>
   refine⟨fun hj=>by simp at hj,fun hj=>?_⟩
   simp at hj
   subst hj
   simp at h
   rw [←h]
   exact hx
  | true=>
   rw [if_pos rfl]
   cases j with
   | zero=>
    refine⟨fun _=>?_,fun hj=>by simp at hj⟩
    simp at h
    rw [←h]
    exact hx
   | succ j=>
    have:=tw_at f r j u (by simpa using h)
    exact⟨fun hj=>this.1 (by simpa using hj),fun hj=>this.2 (by simpa using hj)⟩
theorem farS_le:∀(it:List (List UInt8)) (q:List Tok),(farS it q).1≤q.length
 | [],q=>Nat.zero_le _
 | it::r,q=>by
  have ih:=fun q=>farS_le r q
  have hw:∀k s,wordS q k s=true→1≤q.length:=fun k s h=>by
   cases q with
   | nil=>simp [wordS] at h
   | cons=>simp
  have hl:litT q it=true→1≤q.length:=fun h=>by
   cases q with
   | nil=>simp [litT] at h
   | cons=>simp
  rw [farS]
  split
  ·split
   ·rename_i h;have:=hw _ _ h;have h2:=ih (q.drop 1);rw [List.length_drop] at h2;(try dsimp only);omega
   ·exact Nat.zero_le _
  ·split
   ·split
    ·rename_i h;have:=hw _ _ h;have h2:=ih (q.drop 1);rw [List.length_drop] at h2;(try dsimp only);omega
    ·exact Nat.zero_le _
   ·split
    ·split
     ·rename_i h;exact hw _ _ h
     ·exact Nat.zero_le _
    ·split
     ·split
      ·exact Nat.zero_le _
      ·rename_i h
       have h1:=hw 3 it (by simpa using h)
       have h3:=rowF_le (decide (it=[91])) (if it=[91] then [93] else [41]) (q.drop 1)
       rw [List.length_drop] at h3
       by_cases h5:(rowF (decide (it=[91])) (if it=[91] then [93] else [41]) (q.drop 1)).2=true
       ·rw [if_pos h5]
        have h2:=ih (q.drop (1+(rowF (decide (it=[91])) (if it=[91] then [93] else [41]) (q.drop 1)).1))
        rw [List.length_drop] at h2
        dsimp only
        omega
       ·rw [if_neg h5]
        dsimp only
        omega
     ·split
      ·rename_i h;have:=hl h;have h2:=ih (q.drop 1);rw [List.length_drop] at h2;(try dsimp only);omega
      ·exact Nat.zero_le _
theorem piece_at {T:List Tok}{k:Nat}{t:Tok}{r:List Tok}(hd:T.drop k=t::r)(h4:Tail4 (t::r))(ht:t.kind≠4):∃K,(pieceL (t::r)).length=K+1∧k+1+K<T.length∧(∀j,j≤K→∃u,T[k+1+j]?=some u∧(j<K→u.kind≠4∧u.line=t.line)∧(j=K→u.kind=4∨(u.kind≠4∧u.line≠t.line)))∧T=T.take k++pieceL (t::r)++behindL (t::r)∧behindL (t::r)=T.drop (k+1+K):=by
 have hap:=piece_app (t::r)
 have hne:=(h4.behind ht).1.ne
 have hlen:(t::r).length=T.length-k:=by rw [←hd,List.length_drop]
 have hkl:k<T.length:=by rw [List.length_cons] at hlen;omega
 have hpl:(pieceL (t::r)).length=(r.takeWhile (goesT t.line)).length+1:=rfl
 have hbl:0<(behindL (t::r)).length:=List.length_pos_iff.2 hne
 have hsum:(pieceL (t::r)).length+(behindL (t::r)).length=(t::r).length:=by rw [←List.length_append,hap]
 refine⟨_,hpl,by omega,fun j hj=>?_,?_,?_⟩
 ·have hr:r[j]?=some (r[j]'(by rw [List.length_cons] at hsum;omega)):=List.getElem?_eq_getElem _
  obtain⟨u,hu⟩:∃u,u=r[j]'(by rw [List.length_cons] at hsum;omega):=⟨_,rfl⟩
  rw [←hu] at hr
  clear hu
  refine⟨u,?_,fun hlt=>?_,fun he=>?_⟩
  ·have hq:(T.drop k)[j+1]?=some u:=by rw [hd];exact hr
   rw [List.getElem?_drop] at hq
   rw [←hq]
   congr 1
   omega
  ·have:=(tw_at _ r j _ hr).1 hlt
   unfold goesT at this
   simp only [Bool.and_eq_true,Bool.not_eq_true',beq_eq_false_iff_ne,beq_iff_eq] at this
   exact this
  ·have:=(tw_at _ r j _ hr).2 he
   unfold goesT at this
   by_cases h:u.kind=4
   ·exact .inl h
   ·refine .inr ⟨h,fun hl=>?_⟩
    rw [hl] at this
    simp [h] at this
 ·rw [List.append_assoc,hap,←hd,List.take_append_drop]
 ·have e:T.drop (k+1+(r.takeWhile (goesT t.line)).length)=(T.drop k).drop (pieceL (t::r)).length:=by
   rw [List.drop_drop,hpl]
   congr 1
   omega
  rw [e,hd]
  have h2:(pieceL (t::r)++behindL (t::r)).drop (pieceL (t::r)).length=behindL (t::r):=List.drop_left ..
  rw [hap] at h2
  exact h2.symm
end
set_option maxRecDepth 20000 in
set_option maxHeartbeats 4000000 in
theorem rfp2 {c:Code}(hc:Func.blockOf Tryd.f10 2=some c){Q:Exit→Act→World→Prop}{w:World}{gw cw k K:Nat}{T:List Tok}{t:Tok}{u0 u1 u2 u3 u4 u6 u7 u8 u9 u12 u13 u14 u15 u16 u17 u18 u19 u20 u21 u22 u23 u24 u25 u26 u27 u28 u29 u30 u31 u32 u33 u34 u35 u36 u37 u38 u39 u40 u41 u42 u43 u44 u45 u46 u47 u48 u49 u50 u51 u52 u53 u54 u55 u56 u57 u58 u59 u60 u61 u62 u63 u64 u65 u66 u67 u68 u69 u70 u71 u72 u73 u74 u75 u76 u77 u78 u79 u80 u81 u82 u83 u84 u85 u86 u87 u88 u89 u90 u91 u92 u93 u94 u95 u96 u97 u98 u99 u100 u101 u102 u103 u104 u105 u106 u107 u108 u109 u110 u111 u112 u113 u114 u115 u116 u117 u118 u119 u120 u121 u122 u123 u124 u125 u126 u127 u128 u129 u130 u131 u132 u133 u134 u135 u136 u137 u138 u139 u140 u141 u142 u143 u144 u145 u146 u147 u148 u149 u150 u151 u152 u153 u154 u155 u156 u157 u158 u159 u160 u161 u162 u163 u164 u165 u166 u167 u168 u169 u170 u171 u172 u173 u174 u175 u176 u177 u178 u179 u180 u181 u182 u183 u184 u185 u186 u187 u188 u189 u190 u191 u192 u193 u194 u195 u196 u197 u198 u199 u200 u201 u202 u203 u204 u205 u206 u207 u208 u209 u210 u211 u212 u213 u214 u215 u216 u217 u218 u219 u220 u221 u222 u223 u224 u225 u226 u227 u228 u229 u230 u231 u232 u233 u234 u235 u236 u237 u238 u239 u240 u241 u242 u243 u244 u245 u246 u247 u248 u249 u250 u251 u252 u253 u254 u255 u256 u257 u258 u259 u260 u261 u262 u263 u264 u265 u266 u267 u268 u269 u270 u271 u272:Value}
  (hP:PcAt w gw 0 T) (ht:T[k]?=some t) (hK:k+1+K<T.length) (hat:∀j,j≤K→∃u,T[k+1+j]?=some u∧(j<K→u.kind≠4∧u.line=t.line)∧(j=K→u.kind=4∨(u.kind≠4∧u.line≠t.line)))
  (hQ:Hid (∀{wx:World} {v11 v47 v48 v49 v50 v51 v52 v53 v54 v55 v56 v57 v58 v59 v60 v61 v62 v63 v64 v65 v66 v67 v68 v69:Value},(v11=.int .i64 (k+1+K:Nat)∧Below w.heap.size w wx)→Q .normal {tmps:=#[u0,u1,u2,u3,u4,.slice (some ⟨gw,0,none⟩) T.length cw,u6,u7,u8,u9,.int .i64 k,v11,u12,u13,u14,u15,u16,u17,u18,u19,u20,u21,u22,u23,u24,u25,u26,u27,u28,u29,u30,u31,u32,u33,u34,u35,u36,u37,u38,u39,u40,u41,u42,u43,u44,u45,u46,v47,v48,v49,v50,v51,v52,v53,v54,v55,v56,v57,v58,v59,v60,v61,v62,v63,v64,v65,v66,v67,v68,v69,u70,u71,u72,u73,u74,u75,u76,u77,u78,u79,u80,u81,u82,u83,u84,u85,u86,u87,u88,u89,u90,u91,u92,u93,u94,u95,u96,u97,u98,u99,u100,u101,u102,u103,u104,u105,u106,u107,u108,u109,u110,u111,u112,u113,u114,u115,u116,u117,u118,u119,u120,u121,u122,u123,u124,u125,u126,u127,u128,u129,u130,u131,u132,u133,u134,u135,u136,u137,u138,u139,u140,u141,u142,u143,u144,u145,u146,u147,u148,u149,u150,u151,u152,u153,u154,u155,u156,u157,u158,u159,u160,u161,u162,u163,u164,u165,u166,u167,u168,u169,u170,u171,u172,u173,u174,u175,u176,u177,u178,u179,u180,u181,u182,u183,u184,u185,u186,u187,u188,u189,u190,u191,u192,u193,u194,u195,u196,u197,u198,u199,u200,u201,u202,u203,u204,u205,u206,u207,u208,u209,u210,u211,u212,u213,u214,u215,u216,u217,u218,u219,u220,u221,u222,u223,u224,u225,u226,u227,u228,u229,u230,u231,u232,u233,u234,u235,u236,u237,u238,u239,u240,u241,u242,u243,u244,u245,u246,u247,u248,u249,u250,u251,u252,u253,u254,u255,u256,u257,u258,u259,u260,u261,u262,u263,u264,u265,u266,u267,u268,u269,u270,u271,u272],defers:=[]} wx)):
  c.wp Tryd.prog Q {tmps:=#[u0,u1,u2,u3,u4,.slice (some ⟨gw,0,none⟩) T.length cw,u6,u7,u8,u9,.int .i64 k,.int .i64 (k+1),u12,u13,u14,u15,u16,u17,u18,u19,u20,u21,u22,u23,u24,u25,u26,u27,u28,u29,u30,u31,u32,u33,u34,u35,u36,u37,u38,u39,u40,u41,u42,u43,u44,u45,u46,u47,u48,u49,u50,u51,u52,u53,u54,u55,u56,u57,u58,u59,u60,u61,u62,u63,u64,u65,u66,u67,u68,u69,u70,u71,u72,u73,u74,u75,u76,u77,u78,u79,u80,u81,u82,u83,u84,u85,u86,u87,u88,u89,u90,u91,u92,u93,u94,u95,u96,u97,u98,u99,u100,u101,u102,u103,u104,u105,u106,u107,u108,u109,u110,u111,u112,u113,u114,u115,u116,u117,u118,u119,u120,u121,u122,u123,u124,u125,u126,u127,u128,u129,u130,u131,u132,u133,u134,u135,u136,u137,u138,u139,u140,u141,u142,u143,u144,u145,u146,u147,u148,u149,u150,u151,u152,u153,u154,u155,u156,u157,u158,u159,u160,u161,u162,u163,u164,u165,u166,u167,u168,u169,u170,u171,u172,u173,u174,u175,u176,u177,u178,u179,u180,u181,u182,u183,u184,u185,u186,u187,u188,u189,u190,u191,u192,u193,u194,u195,u196,u197,u198,u199,u200,u201,u202,u203,u204,u205,u206,u207,u208,u209,u210,u211,u212,u213,u214,u215,u216,u217,u218,u219,u220,u221,u222,u223,u224,u225,u226,u227,u228,u229,u230,u231,u232,u233,u234,u235,u236,u237,u238,u239,u240,u241,u242,u243,u244,u245,u246,u247,u248,u249,u250,u251,u252,u253,u254,u255,u256,u257,u258,u259,u260,u261,u262,u263,u264,u265,u266,u267,u268,u269,u270,u271,u272],defers:=[]} w:=by
 conv at hc=>lhs;whnf
 simp only [Option.some.injEq] at hc
 subst hc
 have hPw:=Lib.hid (fun (wr:World) (hb:Below w.heap.size w wr)=>hP.below hb)
 have hlen:=hP.len
 replace hat:=Lib.hid hat
 clear hP
 go_wp2_with fail
 go_loopw [11] (fun i wr=>∃j:Nat,i=.int .i64 (k+1+j:Nat)∧j≤K∧Hid (Below w.heap.size w wr)) (fun i _=>k+1+K-(intOf i).toNat)
 case atStart=>exact⟨0,by simp,Nat.zero_le _,Lib.hid (Below.refl _ _)⟩
 case round=>
  obtain⟨j,rfl,hj,hB⟩:=hrel
  obtain⟨u,hu,hu1,hu2⟩:=hat.out j hj
  have hPr:=hPw.out wr hB.out
  obtain⟨a0,-,-,a3,-⟩:=hPr.toks (k+1+j) u hu
  obtain⟨b0,-,-,b3,-⟩:=hPr.toks k t ht
  rw [Nat.zero_add] at a0 a3 b0 b3
  have hglt:=hPr.lt
  obtain⟨x,hx⟩:∃x,x=k+1+j:=⟨_,rfl⟩
  rw [←hx] at a0 a3 hu ⊢
  have hxn:x<T.length:=by omega
  have i1:(x:Int)<(T.length:Int):=by omega
  have i2:(k:Int)<(T.length:Int):=by omega
  have d1:decide ((x:Int)<0)=false:=by simp
  have d2:decide ((x:Int)≥(T.length:Int))=false:=by simp;omega
  have d3:decide (T.length≤x)=false:=by simpa using hxn
  have d4:decide ((k:Int)<0)=false:=by simp
  have d5:decide ((k:Int)≥(T.length:Int))=false:=by simp;omega
  have d6:decide (T.length≤k)=false:=by simp;omega
  replace hu:=Lib.hid hu
  replace hx:=Lib.hid hx
  clear hPr
  by_cases hlt:j<K
  ·obtain⟨c1,c2⟩:=hu1 hlt
   have g1:((u.kind:Int) != 4)=true:=by simp;omega
   rw [c2] at a3
   clear hu1 hu2 c2
   go_wp2_with fail
   go_quiet (fail)
   go_wp2_with fail
   exact⟨⟨j+1,by first | (rw [hx.out];go_num;done) | (rw [hx.out];go_num;omega),by omega,Lib.hid (hB.out.trans (by first | exact (Below.refl _ _).drewN _ | exact below_drawn (Below.refl _ _) _))⟩,by have:=hx.out;simp [intOf];omega⟩
  ·obtain rfl:j=K:=by omega
   rcases hu2 rfl with c1 | ⟨c1,c2⟩
   ·have g1:((u.kind:Int) != 4)=false:=by rw [c1];rfl
    clear hu1 hu2 hlt
    go_wp2_with fail
    go_quiet (fail)
    go_wp2_with fail
    exact hQ.out ⟨by rw [hx.out],hB.out.trans (by first | exact (Below.refl _ _).drewN _ | exact below_drawn (Below.refl _ _) _)⟩
   ·have g1:((u.kind:Int) != 4)=true:=by simp;omega
    have g2:((u.line:Int)==(t.line:Int))=false:=by simp;omega
    clear hu1 hu2 hlt
    go_wp2_with fail
    go_quiet (fail)
    go_wp2_with fail
    exact hQ.out ⟨by rw [hx.out],hB.out.trans (by first | exact (Below.refl _ _).drewN _ | exact below_drawn (Below.refl _ _) _)⟩
end
end Go.Proofs.YtgcanabckogmmaaDoor
