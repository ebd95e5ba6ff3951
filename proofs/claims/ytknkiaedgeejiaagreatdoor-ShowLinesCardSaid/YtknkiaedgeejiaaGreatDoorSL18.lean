/- SwHv, SwS, Prg, SwY, SwZ. -/
import Derived.Test.YtknkiaedgeejiaaGreatDoorSL17
import Derived.Test.YtknkiaedgeejiaaGreatDoorSL1
namespace Go.Proofs.YtknkiaedgeejiaaGreatDoor
set_option linter.unusedVariables false
set_option linter.unusedSimpArgs false
section
open Go.RowKit Go.Maps Go.Shelf
def LightI (c:Ins):Prop:=c.args.length≤20∧c.labels.length≤20
def LightB (x:Blk):Prop:=x.code.length≤200∧∀c∈x.code,LightI c
def LightF (d:Fun):Prop:=d.params.length≤20∧d.blocks.length≤70∧∀x∈d.blocks,LightB x
def LightP (P:List Fun):Prop:=P.length≤70∧∀d∈P,LightF d
theorem LightP.ok {P:List Fun}(h:LightP P)(hf:∀d∈P,d.Fits):POkA P:=by
 refine⟨⟨hf,by have:=h.1;omega,fun d hd=>by have:=(h.2 d hd).2.1;omega,fun d hd x hx=>by have:=((h.2 d hd).2.2 x hx).1;omega,fun d hd=>by have:=(h.2 d hd).1;omega⟩,fun d hd x hx c hc=>by have:=(((h.2 d hd).2.2 x hx).2 c hc).1;omega⟩
def longB (l:List ByteArray):Bool:=l.any fun s=>decide (s.size > 200)
set_option maxHeartbeats 1000000 in
theorem long_any {w:World}{v:Value}{ss:List ByteArray}(h:RdS w v ss)(hl:ss.length≤maxLen):Calls Tryz.prog 15 #[v] w fun e w'=>e=.returned (.bool (longB ss))∧w=w':=by
 obtain⟨a,c,rfl⟩:=h.shape
 obtain⟨n,hn⟩:∃n,n=ss.length:=⟨_,rfl⟩
 rw [←hn] at hl h ⊢
 unfold maxLen at hl
 generalize hA:longB ss=A
 replace hA:=Lib.hid hA
 replace h:=Lib.hid h
 replace hn:=Lib.hid hn
 go_enter Tryz.func15,Tryz.ntmps15
 go_wp2_with fail
 go_loop [3] (fun i=>∃k:Nat,k≤n∧i=.int .i64 k∧Hid (longB (ss.take k)=false)) (fun i=>n-(intOf i).toNat)
 case atStart=>exact⟨0,Nat.zero_le _,rfl,Lib.hid rfl⟩
 case round=>
  obtain⟨k,hk,rfl,ha⟩:=hrel
  by_cases hlt:k<n
  ·have j1:decide ((k:Int)<(n:Int))=true:=by simpa using hlt
   have j2:(k:Int)<(n:Int):=by omega
   obtain⟨s,hs⟩:∃s,ss[k]?=some s:=⟨_,List.getElem?_eq_getElem (by rw [←hn.out];exact hlt)⟩
   obtain⟨b,off,cap,e,hc⟩:=h.out.cell hs
   rw [←hn.out] at e
   simp only [Value.slice.injEq] at e
   obtain⟨rfl,-,rfl⟩:=e
   have hat:longB (ss.take (k+1))=decide (s.size > 200):=by
    have:=ha.out
    unfold longB at this ⊢
    rw [take_snocS hs,List.any_append,this]
    simp
   have hsub:Hid (longB (ss.take (k+1))=true→longB ss=true):=Lib.hid (fun e=>by
    unfold longB at e ⊢
    rw [List.any_eq_true] at e ⊢
    obtain⟨x,hx,hy⟩:=e
    exact⟨x,List.mem_of_mem_take hx,hy⟩)
   clear hs
   by_cases h2:s.size > 200
   ·have d1:decide ((s.size:Int) > 200)=true:=by simp;omega
    have hAt:Hid (true=A):=Lib.hid (by rw [←hA.out];exact (hsub.out (by rw [hat];simpa using h2)).symm)
    clear hat hsub
    go_wp2_with fail
    go_ret
    exact⟨by rw [←hAt.out];rfl,rfl⟩
   ·have d1:decide ((s.size:Int) > 200)=false:=by simp;omega
    have hat2:=Lib.hid (show longB (ss.take (k+1))=false from by rw [hat];simpa using h2)
    clear hat hsub
    go_wp2_with fail
    go_round
    case rel=>exact⟨k+1,by omega,by go_num,hat2⟩
    case measure=>simp [intOf];omega
  ·obtain rfl:k=n:=by omega
   have j1:decide ((k:Int)<(k:Int))=false:=by simp
   have hal:Hid (longB ss=false):=Lib.hid (by have:=ha.out;rwa [List.take_of_length_le (by rw [←hn.out];exact Nat.le_refl _)] at this)
   clear ha
   go_wp2_with fail
   go_ret
   exact⟨by rw [←hA.out,hal.out];rfl,rfl⟩
def HeavyPost (w:World)(P:List Fun)(e:Ending)(w':World):Prop:=∃q,e=.returned (.bool q)∧Below w.heap.size w w'∧(q=false→LightP P)
set_option maxRecDepth 20000 in
set_option maxHeartbeats 8000000 in
theorem heavy_any {w:World}{v:Value}{P:List Fun}(h:RdE 3 RdFun w v P)(hf:∀d∈P,d.Fits)(hl:P.length≤maxLen):Calls Tryz.prog 7 #[.agg #[v]] w (HeavyPost w P):=by
 obtain⟨a0,c0,rfl⟩:=h.form
 obtain⟨p,hp⟩:∃p,p=P.length:=⟨_,rfl⟩
 rw [←hp] at h hl ⊢
 unfold maxLen at hl
 replace h:=Lib.hid h
 replace hp:=Lib.hid hp
 replace hf:=Lib.hid hf
 have hbe0:Below w.heap.size w (w.alloc (.cells #[.slice a0 p c0] 24)):=(Below.refl _ _).alloc (Nat.le_refl _) _
 have hS0:(w.alloc (.cells #[.slice a0 p c0] 24)).heap[w.heap.size]?=some (.cells #[.slice a0 p c0] 24 (0,0)):=heap_alloc_new _ _
 by_cases h70:p≤70
 case neg=>
  have d1:decide ((p:Int) > 70)=true:=by simp;omega
  have hbe:=Lib.hid hbe0
  clear hbe0 hS0
  go_enter Tryz.func7,Tryz.ntmps7
  go_wp2_with fail
  go_ret
  exact⟨true,rfl,hbe.out,fun h=>by cases h⟩
 have d1:decide ((p:Int) > 70)=false:=by simp;omega
 go_enter Tryz.func7,Tryz.ntmps7
 go_wp2_with fail
 generalize (w.alloc (.cells #[.slice a0 p c0] 24))=w0 at hbe0 hS0 ⊢
 obtain⟨S,hS⟩:∃S,S=w.heap.size:=⟨_,rfl⟩
 rw [←hS] at hS0 ⊢
 have hlt0:=(Array.getElem?_eq_some_iff.1 hS0).1
 have hcS:=Lib.hid (fun (wr:World) (hb:Below w0.heap.size w0 wr)=>(by rw [blk_cell ((hb.block S hlt0).trans hS0)];rfl:wr.cell? ⟨S,0,none⟩=some (.slice a0 p c0)))
 replace hS:=Lib.hid hS
 have hbeW:=Lib.hid hbe0
 clear hS0 hbe0 d1
 go_loopw [3,4,5,6,7,8,9] (fun m i _ _ _ _ _ wr=>∃k N:Nat,k≤p∧N≤200∧i=.int .i64 k∧m=.int .i64 N∧Hid (Below w0.heap.size w0 wr)∧Hid (∀d∈P.take k,LightF d)) (fun _ i _ _ _ _ _ _=>p-(intOf i).toNat)
 case atStart=>exact⟨0,0,Nat.zero_le _,Nat.zero_le _,rfl,rfl,Lib.hid (Below.refl _ _),Lib.hid (fun b hb=>by simp at hb)⟩
 case round=>
  obtain⟨k,N,hk,hN,rfl,rfl,hB,hall⟩:=hrel
  have cS:=hcS.out wr hB.out
  by_cases hlt:k<p
  case neg=>
   obtain rfl:k=p:=by omega
   have j1:decide ((k:Int)<(k:Int))=false:=by simp
   go_wp2_with fail
   go_ret
   exact⟨false,rfl,hbeW.out.trans (hB.out.mono hbeW.out.size),fun _=>⟨by rw [←hp.out];exact h70,by have:=hall.out;rwa [List.take_of_length_le (by rw [hp.out];exact Nat.le_refl _)] at this⟩⟩
  have j1:decide ((k:Int)<(p:Int))=true:=by simpa using hlt
  have j2:(k:Int)<(p:Int):=by omega
  obtain⟨d,hd⟩:∃d,P[k]?=some d:=⟨_,List.getElem?_eq_getElem (by rw [←hp.out];exact hlt)⟩
  obtain⟨g,off,cap,cs,e,hgl,⟨vp,vb,rfl,rp,rb⟩,-,hcell⟩:=h.out.at hd
  rw [←hp.out] at e
  simp only [Value.slice.injEq] at e
  obtain⟨rfl,-,rfl⟩:=e
  obtain⟨ap,cp,rfl⟩:=rp.shape
  obtain⟨ab,cb,rfl⟩:=rb.form
  have hBw:=hbeW.out.trans (hB.out.mono hbeW.out.size)
  have e0:wr.cell? ⟨g,off+k*3,none⟩=some (.string d.name):=keepC hBw (hcell 0 _ rfl)
  have e1:=keepC hBw (hcell 1 _ rfl)
  have e2:=keepC hBw (hcell 2 _ rfl)
  have hfd:=hf.out d (List.mem_of_getElem? hd)
  have htk:=Lib.hid (take_snocS hd)
  obtain⟨np,hnp⟩:∃n,n=d.params.length:=⟨_,rfl⟩
  obtain⟨nb,hnb⟩:∃n,n=d.blocks.length:=⟨_,rfl⟩
  have hnbl:nb≤maxLen:=by rw [hnb];exact hfd.2.2.2.2
  unfold maxLen at hnbl
  rw [←hnp] at rp e1
  rw [←hnb] at rb e2
  have hlo:=Lib.hid (fun w' (hb:Below w.heap.size w w')=>long_any (Rd.below rp hb) hfd.2.2.2.1)
  have hbx:=hB.out.alloc hB.out.size (.cells #[.string d.name,.slice ap np cp,.slice ab nb cb] 40)
  have hF0:(wr.alloc (.cells #[.string d.name,.slice ap np cp,.slice ab nb cb] 40)).heap[wr.heap.size]?=some (.cells #[.string d.name,.slice ap np cp,.slice ab nb cb] 40 (0,0)):=heap_alloc_new _ _
  replace hnp:=Lib.hid hnp
  replace hnb:=Lib.hid hnb
  replace hfd:=Lib.hid hfd
  replace rb:=Lib.hid rb
  replace hbx:=Lib.hid hbx
  replace hB:=Lib.hid hB.out
  generalize hx1:decide ((d.name.size:Int) > 200)=q1
  generalize hx2:decide ((np:Int) > 20)=q2
  generalize hx3:decide ((nb:Int) > 70)=q3
  generalize longB d.params=q4 at hlo
  clear hcell rp hd hgl hBw
  go_upto_region 8 with fail
  generalize (wr.alloc (.cells #[.string d.name,.slice ap np cp,.slice ab nb cb] 40))=w1 at hbx hF0 ⊢
  have f0:w1.cell? ⟨wr.heap.size,0,none⟩=some (.string d.name):=by rw [blk_cell hF0];rfl
  have f1:w1.cell? ⟨wr.heap.size,1,none⟩=some (.slice ap np cp):=by rw [blk_cell hF0];rfl
  have f2:w1.cell? ⟨wr.heap.size,2,none⟩=some (.slice ab nb cb):=by rw [blk_cell hF0];rfl
  have hFl:=(Array.getElem?_eq_some_iff.1 hF0).1
  generalize wr.heap.size=Sd at f0 f1 f2 hFl hF0 ⊢
  have hcF:=Lib.hid (fun (wx:World) (hb:Below w1.heap.size w1 wx)=>(by rw [blk_cell ((hb.block Sd hFl).trans hF0)];rfl:wx.cell? ⟨Sd,2,none⟩=some (.slice ab nb cb)))
  have hW1:=Lib.hid (hbeW.out.trans (hbx.out.mono hbeW.out.size))
  clear e0 e1 e2 hB hF0 cS
  cases q1 with
  | true=>
   go_wp2_with (go_at_call 15;refine (hlo.out _ hW1.out).mono ?_;rintro e w' ⟨rfl,rfl⟩)
   go_ret
   exact⟨true,rfl,hW1.out,fun h=>by cases h⟩
  | false=>
    cases q2 with
    | true=>
     go_wp2_with (go_at_call 15;refine (hlo.out _ hW1.out).mono ?_;rintro e w' ⟨rfl,rfl⟩)
     go_ret
     exact⟨true,rfl,hW1.out,fun h=>by cases h⟩
    | false=>
      cases q3 with
      | true=>
       go_wp2_with (go_at_call 15;refine (hlo.out _ hW1.out).mono ?_;rintro e w' ⟨rfl,rfl⟩)
       go_ret
       exact⟨true,rfl,hW1.out,fun h=>by cases h⟩
      | false=>
        cases q4 with
        | true=>
         go_wp2_with (go_at_call 15;refine (hlo.out _ hW1.out).mono ?_;rintro e w' ⟨rfl,rfl⟩)
         go_ret
         exact⟨true,rfl,hW1.out,fun h=>by cases h⟩
        | false=>
          have hnp20:np≤20:=by simp at hx2;omega
          have hnb70:nb≤70:=by simp at hx3;omega
          go_upto_region 10 with (go_at_call 15;refine (hlo.out _ hW1.out).mono ?_;rintro e w' ⟨rfl,rfl⟩)
          clear hx1 hx2 hx3 f0 f1
          go_wp2_with fail
          clear f2
          go_loopw [3,6,7,8,9] (fun m i _ _ _ wx=>∃k2 N:Nat,k2≤nb∧N≤200∧i=.int .i64 k2∧m=.int .i64 N∧Hid (Below w1.heap.size w1 wx)∧Hid (∀x∈d.blocks.take k2,LightB x)) (fun _ i _ _ _ _=>nb-(intOf i).toNat)
          case atStart=>exact⟨0,N,Nat.zero_le _,hN,rfl,rfl,Lib.hid (Below.refl _ _),Lib.hid (fun b hb=>by simp at hb)⟩
          case round=>
           obtain⟨k2,N2,hk2,hN2,rfl,rfl,hB,hallB⟩:=hrel
           have cF:=hcF.out wr hB.out
           by_cases hlt2:k2<nb
           case neg=>
            obtain rfl:k2=nb:=by omega
            have i1:decide ((k2:Int)<(k2:Int))=false:=by simp
            have hall2:Hid (∀z∈P.take (k+1),LightF z):=Lib.hid (by
             rw [htk.out]
             intro z hz
             rcases List.mem_append.1 hz with h | h
             ·exact hall.out z h
             ·rw [List.mem_singleton.1 h]
              exact⟨by rw [←hnp.out];exact hnp20,by rw [←hnb.out];exact hnb70,by have:=hallB.out;rwa [List.take_of_length_le (by rw [hnb.out];exact Nat.le_refl _)] at this⟩)
            have hB3:=Lib.hid (hbx.out.trans (hB.out.mono hbx.out.size))
            clear hallB hB hall
            go_wp2_with fail
            exact⟨⟨k+1,N2,by omega,hN2,by go_num,rfl,hB3,hall2⟩,by simp [intOf];omega⟩
           have i1:decide ((k2:Int)<(nb:Int))=true:=by simpa using hlt2
           have i2:(k2:Int)<(nb:Int):=by omega
           obtain⟨x,hx⟩:∃x,d.blocks[k2]?=some x:=⟨_,List.getElem?_eq_getElem (by rw [←hnb.out];exact hlt2)⟩
           obtain⟨g,off,cap,cs,e,hgl,⟨vc,rfl,rc⟩,-,hcell⟩:=rb.out.at hx
           rw [←hnb.out] at e
           simp only [Value.slice.injEq] at e
           obtain⟨rfl,-,rfl⟩:=e
           obtain⟨ac,cc,rfl⟩:=rc.form
           have hBw:=hW1.out.trans (hB.out.mono hW1.out.size)
           have e0:wr.cell? ⟨g,off+k2*2,none⟩=some (.string x.label):=keepC hBw (hcell 0 _ rfl)
           have e1:=keepC hBw (hcell 1 _ rfl)
           have hfx:=Lib.hid (hfd.out.2.2.1 x (List.mem_of_getElem? hx))
           have htx:=Lib.hid (take_snocS hx)
           obtain⟨nc,hnc⟩:∃n,n=x.code.length:=⟨_,rfl⟩
           have hncl:nc≤maxLen:=by rw [hnc];exact hfx.out.2.2
           unfold maxLen at hncl
           rw [←hnc] at rc e1
           replace hnc:=Lib.hid hnc
           replace rc:=Lib.hid rc
           replace hBw:=Lib.hid hBw
           generalize hx1:decide ((nc:Int) > 200-(N2:Int))=q5
           generalize hx2:decide ((x.label.size:Int) > 200)=q6
           clear hcell hx hgl
           cases q5 with
           | true=>
            go_wp2_with fail
            go_ret
            exact⟨true,rfl,hBw.out,fun h=>by cases h⟩
           | false=>
             cases q6 with
             | true=>
              go_wp2_with fail
              go_ret
              exact⟨true,rfl,hBw.out,fun h=>by cases h⟩
             | false=>
               have hncN:nc+N2≤200:=by simp at hx1;omega
               go_upto_region 17 with fail
               have hSum:=Lib.hid (show (N2:Int)+(nc:Int)=((N2+nc:Nat):Int) from by omega)
               clear hx1 hx2 e0 e1 cF
               go_wp2_with fail
               go_loopw [8,9] (fun i _ wx=>∃k3:Nat,k3≤nc∧i=.int .i64 k3∧Hid (Below w1.heap.size w1 wx)∧Hid (∀c∈x.code.take k3,LightI c)) (fun i _ _=>nc-(intOf i).toNat)
               case atStart=>exact⟨0,Nat.zero_le _,rfl,hB,Lib.hid (fun b hb=>by simp at hb)⟩
               case round=>
                clear hB hBw
                obtain⟨k3,hk3,rfl,hB,hallI⟩:=hrel
                by_cases hlt3:k3<nc
                case neg=>
                 obtain rfl:k3=nc:=by omega
                 have l1:decide ((k3:Int)<(k3:Int))=false:=by simp
                 have hall2:Hid (∀z∈d.blocks.take (k2+1),LightB z):=Lib.hid (by
                  rw [htx.out]
                  intro z hz
                  rcases List.mem_append.1 hz with h | h
                  ·exact hallB.out z h
                  ·rw [List.mem_singleton.1 h]
                   exact⟨by rw [←hnc.out];omega,by have:=hallI.out;rwa [List.take_of_length_le (by rw [hnc.out];exact Nat.le_refl _)] at this⟩)
                 clear hallI hallB
                 go_wp2_with fail
                 exact⟨⟨k2+1,N2+k3,by omega,by omega,by go_num,by first | rfl | (rw [hSum.out];rfl) | go_num,hB,hall2⟩,by simp [intOf];omega⟩
                have l1:decide ((k3:Int)<(nc:Int))=true:=by simpa using hlt3
                have l2:(k3:Int)<(nc:Int):=by omega
                obtain⟨y,hy⟩:∃y,x.code[k3]?=some y:=⟨_,List.getElem?_eq_getElem (by rw [←hnc.out];exact hlt3)⟩
                obtain⟨g,off,cap,cs,e,hgl,⟨va,vl,rfl,ra,rl⟩,-,hc⟩:=rc.out.at hy
                rw [←hnc.out] at e
                simp only [Value.slice.injEq] at e
                obtain⟨rfl,-,rfl⟩:=e
                obtain⟨aa,ca,rfl⟩:=ra.shape
                obtain⟨la,cl,rfl⟩:=rl.shape
                have hBw:=hW1.out.trans (hB.out.mono hW1.out.size)
                have e0:wr.cell? ⟨g,off+k3*8,none⟩=some (.int .u8 y.op):=keepC hBw (hc 0 _ rfl)
                have e1:=keepC hBw (hc 1 _ rfl)
                have e2:=keepC hBw (hc 2 _ rfl)
                have e3:=keepC hBw (hc 3 _ rfl)
                have e4:=keepC hBw (hc 4 _ rfl)
                have e5:=keepC hBw (hc 5 _ rfl)
                have e6:=keepC hBw (hc 6 _ rfl)
                have e7:=keepC hBw (hc 7 _ rfl)
                have hfy:=hfx.out.2.1 y (List.mem_of_getElem? hy)
                have hty:=Lib.hid (take_snocS hy)
                have hzl:y.args.length≤maxLen:=hfy.2.2.2.2.2.2.2.2.2.1
                have hzm:y.labels.length≤maxLen:=hfy.2.2.2.2.2.2.2.2.2.2
                obtain⟨na,hna⟩:∃n,n=y.args.length:=⟨_,rfl⟩
                obtain⟨nl,hnl⟩:∃n,n=y.labels.length:=⟨_,rfl⟩
                have hnal:na≤maxLen:=by rw [hna];exact hfy.2.2.2.2.2.2.2.2.2.1
                have hnll:nl≤maxLen:=by rw [hnl];exact hfy.2.2.2.2.2.2.2.2.2.2
                unfold maxLen at hnal hnll
                rw [←hna] at e6 ra
                rw [←hnl] at e7 rl
                replace hna:=Lib.hid hna
                replace hnl:=Lib.hid hnl
                have hbx2:=hB.out.alloc hB.out.size (.cells #[.int .u8 y.op,.string y.dst,.string y.a,.string y.b,.int .i64 y.n,.string y.fn,.slice aa na ca,.slice la nl cl] 46)
                have hI0:(wr.alloc (.cells #[.int .u8 y.op,.string y.dst,.string y.a,.string y.b,.int .i64 y.n,.string y.fn,.slice aa na ca,.slice la nl cl] 46)).heap[wr.heap.size]?=some (.cells #[.int .u8 y.op,.string y.dst,.string y.a,.string y.b,.int .i64 y.n,.string y.fn,.slice aa na ca,.slice la nl cl] 46 (0,0)):=heap_alloc_new _ _
                replace hbx2:=Lib.hid hbx2
                generalize hy1:decide ((y.dst.size:Int) > 200)=r1
                generalize hy2:decide ((y.a.size:Int) > 200)=r2
                generalize hy3:decide ((y.b.size:Int) > 200)=r3
                generalize hy4:decide ((y.fn.size:Int) > 200)=r4
                generalize hy5:decide ((na:Int) > 20)=r5
                generalize hy6:decide ((nl:Int) > 20)=r6
                generalize hr7:longB y.args=r7
                generalize hr8:longB y.labels=r8
                replace hr7:=Lib.hid hr7
                replace hr8:=Lib.hid hr8
                have hra:=Lib.hid ra
                have hrl:=Lib.hid rl
                clear hc ra rl hy hgl hfy hBw hB
                go_upto_region 21 with fail
                clear e0 e1 e2 e3 e4 e5 e6 e7
                generalize (wr.alloc (.cells #[.int .u8 y.op,.string y.dst,.string y.a,.string y.b,.int .i64 y.n,.string y.fn,.slice aa na ca,.slice la nl cl] 46))=w2 at hbx2 hI0 ⊢
                have f1:w2.cell? ⟨wr.heap.size,1,none⟩=some (.string y.dst):=by rw [blk_cell hI0];rfl
                have f2:w2.cell? ⟨wr.heap.size,2,none⟩=some (.string y.a):=by rw [blk_cell hI0];rfl
                have f3:w2.cell? ⟨wr.heap.size,3,none⟩=some (.string y.b):=by rw [blk_cell hI0];rfl
                have f5:w2.cell? ⟨wr.heap.size,5,none⟩=some (.string y.fn):=by rw [blk_cell hI0];rfl
                have f6:w2.cell? ⟨wr.heap.size,6,none⟩=some (.slice aa na ca):=by rw [blk_cell hI0];rfl
                have f7:w2.cell? ⟨wr.heap.size,7,none⟩=some (.slice la nl cl):=by rw [blk_cell hI0];rfl
                generalize wr.heap.size=Sy at f1 f2 f3 f5 f6 f7 ⊢
                have hW2:=Lib.hid (hW1.out.trans (hbx2.out.mono hW1.out.size))
                have hra2:=Rd.below hra.out hW2.out
                have hrl2:=Rd.below hrl.out hW2.out
                clear hI0
                cases r1 with
                | true=>
                 go_wp2_with (go_at_call 15;refine Calls.mono (long_any (by assumption) (by assumption)) ?_;rintro e w' ⟨rfl,rfl⟩;first | rw [hr7.out] | rw [hr8.out])
                 go_ret
                 exact⟨true,rfl,hW2.out,fun h=>by cases h⟩
                | false=>
                  cases r2 with
                  | true=>
                   go_wp2_with (go_at_call 15;refine Calls.mono (long_any (by assumption) (by assumption)) ?_;rintro e w' ⟨rfl,rfl⟩;first | rw [hr7.out] | rw [hr8.out])
                   go_ret
                   exact⟨true,rfl,hW2.out,fun h=>by cases h⟩
                  | false=>
                    cases r3 with
                    | true=>
                     go_wp2_with (go_at_call 15;refine Calls.mono (long_any (by assumption) (by assumption)) ?_;rintro e w' ⟨rfl,rfl⟩;first | rw [hr7.out] | rw [hr8.out])
                     go_ret
                     exact⟨true,rfl,hW2.out,fun h=>by cases h⟩
                    | false=>
                      cases r4 with
                      | true=>
                       go_wp2_with (go_at_call 15;refine Calls.mono (long_any (by assumption) (by assumption)) ?_;rintro e w' ⟨rfl,rfl⟩;first | rw [hr7.out] | rw [hr8.out])
                       go_ret
                       exact⟨true,rfl,hW2.out,fun h=>by cases h⟩
                      | false=>
                        cases r5 with
                        | true=>
                         go_wp2_with (go_at_call 15;refine Calls.mono (long_any (by assumption) (by assumption)) ?_;rintro e w' ⟨rfl,rfl⟩;first | rw [hr7.out] | rw [hr8.out])
                         go_ret
                         exact⟨true,rfl,hW2.out,fun h=>by cases h⟩
                        | false=>
                          cases r6 with
                          | true=>
                           go_wp2_with (go_at_call 15;refine Calls.mono (long_any (by assumption) (by assumption)) ?_;rintro e w' ⟨rfl,rfl⟩;first | rw [hr7.out] | rw [hr8.out])
                           go_ret
                           exact⟨true,rfl,hW2.out,fun h=>by cases h⟩
                          | false=>
                            cases r7 with
                            | true=>
                             go_wp2_with (go_at_call 15;refine Calls.mono (long_any (by assumption) (by assumption)) ?_;rintro e w' ⟨rfl,rfl⟩;first | rw [hr7.out] | rw [hr8.out])
                             go_ret
                             exact⟨true,rfl,hW2.out,fun h=>by cases h⟩
                            | false=>
                              cases r8 with
                              | true=>
                               go_wp2_with (go_at_call 15;refine Calls.mono (long_any (by assumption) (by assumption)) ?_;rintro e w' ⟨rfl,rfl⟩;first | rw [hr7.out] | rw [hr8.out])
                               go_ret
                               exact⟨true,rfl,hW2.out,fun h=>by cases h⟩
                              | false=>
                                have hall2:Hid (∀c∈x.code.take (k3+1),LightI c):=Lib.hid (by
                                 rw [hty.out]
                                 intro z hz
                                 rcases List.mem_append.1 hz with h | h
                                 ·exact hallI.out z h
                                 ·rw [List.mem_singleton.1 h]
                                  exact⟨by rw [←hna.out];simp at hy5;omega,by rw [←hnl.out];simp at hy6;omega⟩)
                                clear hallI
                                go_wp2_with (go_at_call 15;refine Calls.mono (long_any (by assumption) (by assumption)) ?_;rintro e w' ⟨rfl,rfl⟩;first | rw [hr7.out] | rw [hr8.out])
                                exact⟨⟨k3+1,by omega,by go_num,hbx2,hall2⟩,by simp [intOf];omega⟩
end
section
open Go.RowKit Go.Maps Go.Shelf Go.WideMaps
attribute [local go_sem] Oper.semAt_some
theorem light_short {P:List Fun}(h:LightP P):∀d∈P,ShortF d:=by
 intro d hd
 obtain⟨h1,h2,h3⟩:=h.2 d hd
 refine⟨by omega,by omega,fun x hx=>by have:=(h3 x hx).1;omega,fun x hx c hc=>?_⟩
 have:=(h3 x hx).2 c hc
 unfold LightI at this
 omega
theorem lines_snoc {P:List Fun}{k:Nat}{d:Fun}(h:P[k]?=some d):linesP (P.take (k+1))=linesP (P.take k)+linesF d:=by
 unfold linesP
 rw [take_snocT h]
 simp
def linesB (l:List Blk):Nat:=(l.map (fun x=>1+x.code.length)).sum
theorem linesB_snoc {l:List Blk}{k:Nat}{x:Blk}(h:l[k]?=some x):linesB (l.take (k+1))=linesB (l.take k)+(1+x.code.length):=by
 unfold linesB
 rw [take_snocT h]
 simp
theorem linesB_le {l:List Blk}(h:∀x∈l,x.code.length≤200):linesB l≤201*l.length:=by
 induction l with
 | nil=>simp [linesB]
 | cons x r ih=>
  have h1:=h x (by simp)
  have h2:=ih (fun z hz=>h z (List.mem_cons_of_mem _ hz))
  unfold linesB at h2 ⊢
  rw [List.map_cons,List.sum_cons,List.length_cons]
  omega
theorem linesF_le {d:Fun}(h:LightF d):linesF d≤14072:=by
 have h1:=linesB_le (fun x hx=>(h.2.2 x hx).1)
 have:=h.2.1
 unfold linesB at h1
 unfold linesF
 omega
theorem linesP_le:∀{P:List Fun},(∀d∈P,LightF d)→linesP P≤14072*P.length
 | [],_=>by simp [linesP]
 | d::r,h=>by
  have h1:=linesF_le (h d (by simp))
  have h2:=linesP_le (P:=r) (fun z hz=>h z (List.mem_cons_of_mem _ hz))
  unfold linesP at h2 ⊢
  rw [List.map_cons,List.sum_cons,List.length_cons]
  omega
theorem scan_step {s:List UInt8}{i:Nat}{c:UInt8}{st z:Nat × Nat × UInt8}(hc:s[i]?=some c)(h:scanT (s.take i) (0,0,0)=some st)(hz:scanT s (0,0,0)=some z):∃st',scanB st c=some st'∧scanT (s.take (i+1)) (0,0,0)=some st':=by
 have e:scanT (s.take (i+1)) (0,0,0)=scanB st c:=by
  rw [take_snocT hc,scan_app,h]
  show (scanB st c).bind (scanT [])=_
  cases scanB st c<;>rfl
 have e2:s=s.take (i+1)++s.drop (i+1):=(List.take_append_drop _ _).symm
 rw [e2,scan_app,e] at hz
 cases h3:scanB st c with
 | none=>rw [h3] at hz;cases hz
 | some st'=>exact⟨st',rfl,by rw [e,h3]⟩
theorem step_nl {g p:Nat}{q c:UInt8}{st':Nat × Nat × UInt8}(h:scanB (g,p,q) c=some st')(hc:c.toNat=10):p≠0∧q.toNat≠32∧st'=(g+1,0,c):=by
 unfold scanB at h
 rw [if_pos hc] at h
 by_cases hb:p=0∨q.toNat=32
 ·rw [if_pos hb] at h;cases h
 ·rw [if_neg hb] at h
  exact⟨fun e=>hb (.inl e),fun e=>hb (.inr e),(Option.some.inj h).symm⟩
theorem step_in {g p:Nat}{q c:UInt8}{st':Nat × Nat × UInt8}(h:scanB (g,p,q) c=some st')(hc:c.toNat≠10):(c.toNat=32∨(33≤c.toNat∧c.toNat≤126))∧(c.toNat=32→p≤1∨q.toNat≠32)∧st'=(g,p+1,c):=by
 unfold scanB at h
 rw [if_neg hc] at h
 by_cases hb:(c.toNat≠32∧(c.toNat<33∨126<c.toNat))∨(c.toNat=32∧1<p∧q.toNat=32)
 ·rw [if_pos hb] at h;cases h
 ·rw [if_neg hb] at h
  refine⟨by omega,fun e=>?_,(Option.some.inj h).symm⟩
  omega
end
section
open Go.RowKit Go.Maps Go.WideShapes Go.ChangeShapes Go.ChangeAt Go.Deep
def PrgFits (P:List Fun):Prop:=(∀d∈P,d.Fits)∧P.length≤maxLen
theorem cellsPrg:Tryz.prog.cellsOf 24=1:=by kernel_rfl
end
section
open Go.RowKit Go.Maps Go.Shelf Go.WideMaps
attribute [local go_sem] Oper.semAt_some
set_option maxRecDepth 20000 in
set_option maxHeartbeats 16000000 in
theorem showLines_any {w:World}{v:Value}{P:List Fun}(h:RdE 3 RdFunC w v P)(hf:∀d∈P,d.Fits)(hl:P.length≤maxLen):Calls Tryz.prog 5 #[.agg #[v]] w fun e w'=>e=.returned (.bool true)∧Below w.heap.size w w':=by
 obtain⟨ap,cp,rfl⟩:=h.form
 have hpl:=RdE.mono6 (fun cs d=>RdFunC.plain) h
 obtain⟨W2,hW2⟩:∃W2,w.alloc (.cells #[.slice ap P.length cp] 24)=W2:=⟨_,rfl⟩
 have hX:W2.heap[w.heap.size]?=some (.cells #[.slice ap P.length cp] 24 (0,0)):=by rw [←hW2];exact at_newN rfl
 have hw2:Below w.heap.size w W2:=by rw [←hW2];exact (Below.refl _ _).alloc (Nat.le_refl _) _
 have hheavy:=Lib.hid (heavy_any (RdE.below (fun _ _ x=>RdFun.below x hw2) hpl hw2) hf hl)
 obtain⟨n,hn⟩:∃n,n=P.length:=⟨_,rfl⟩
 rw [←hn] at h hX hW2 hheavy ⊢
 have hcX:=Lib.hid (fun (W:World) (hb:Below W2.heap.size W2 W)=>(by rw [blk_cell ((hb.block _ (Array.getElem?_eq_some_iff.1 hX).1).trans hX)];rfl:W.cell? ⟨w.heap.size,0,none⟩=some (.slice ap n cp)))
 have c0:=hcX.out W2 (Below.refl _ _)
 replace hW2:=Lib.hid hW2
 replace hw2:=Lib.hid hw2
 replace hn:=Lib.hid hn
 replace h:=Lib.hid h
 replace hf:=Lib.hid hf
 clear hX hpl hl
 go_enter Tryz.func5,Tryz.ntmps5
 go_upto_region 1 with fail
 rw [hW2.out]
 clear hW2
 go_wp2_with fail
 refine hheavy.out.mono ?_
 rintro e w3 ⟨q,rfl,hb3,hlight⟩
 dsimp only
 have hB3:=Lib.hid hb3
 clear hheavy hb3 c0
 cases q with
 | true=>
  clear hlight
  go_wp2_with fail
  refine (tells_any w3).mono ?_
  rintro e w4 ⟨rfl,hb4⟩
  dsimp only
  have hfin:=Lib.hid (hw2.out.trans ((hB3.out.trans (hb4.mono hB3.out.size)).mono hw2.out.size))
  clear hb4
  go_wp2_with fail
  go_ret
  exact⟨rfl,hfin.out⟩
 | false=>
  have hL:=Lib.hid (hlight rfl)
  clear hlight
  have c0:=hcX.out w3 hB3.out
  have hWB:=Lib.hid (hw2.out.trans (hB3.out.mono hw2.out.size))
  have hprint:=Lib.hid (print_any (LightP.ok hL.out hf.out) (light_short hL.out) (by have:=hL.out.1;omega) (RdE.below (fun _ _ x=>(by obtain⟨vp,vb,e,h1,h2⟩:=x;exact⟨vp,vb,e,h1.below hWB.out,RdE.below (fun _ _ y=>(by obtain⟨vc,e,h3⟩:=y;exact⟨vc,e,RdE.below (fun _ _ z=>(by obtain⟨va,vl,e,h4,h5⟩:=z;exact⟨va,vl,e,h4.below hWB.out,h5.below hWB.out⟩)) h3 hWB.out⟩)) h2 hWB.out⟩)) h.out hWB.out))
  go_wp2_with fail
  refine hprint.out.mono ?_
  rintro e w4 ⟨rfl,hb4⟩
  dsimp only
  have hB4:=Lib.hid (hB3.out.trans (hb4.mono hB3.out.size))
  clear hprint hb4 c0
  by_cases hz:showE P=0
  ·have hz0:((showE P:Int) != 0)=false:=by rw [hz];rfl
   obtain⟨T,hT⟩:∃T,T=showS P:=⟨_,rfl⟩
   rw [←hT]
   have hnb:brokenP P=false:=by
    unfold showE at hz
    cases hb:brokenP P with
    | false=>rfl
    | true=>rw [hb,if_pos rfl] at hz;cases hz
   have hnl:¬1048576<(progT P).length:=by
    intro hlp
    unfold showE at hz
    rw [hnb,if_neg (by decide),if_pos hlp] at hz
    cases hz
   have hTb:bL T=progT P:=by
    rw [hT]
    unfold showS
    rw [hnb,if_neg (by decide),if_neg hnl]
    rfl
   have hr2:ruleAt P 2=none:=by
    unfold brokenP at hnb
    simp only [Bool.or_eq_false_iff] at hnb
    simpa using hnb.1
   have hr9:ruleAt P 9=none:=by
    unfold brokenP at hnb
    simp only [Bool.or_eq_false_iff] at hnb
    simpa using hnb.2
   obtain⟨q',hscan⟩:=prog_lines hr2 hr9
   rw [←hTb] at hscan
   have hTz:T.size≤1048576:=by
    have h9:(bL T).length=T.size:=rfl
    rw [hTb] at h9
    omega
   have hlp:=linesP_le hL.out.2
   have h70:=hL.out.1
   have hn70:n≤70:=by rw [hn.out];exact h70
   have c0:=hcX.out w4 hB4.out
   replace hT:=Lib.hid hT
   replace hTb:=Lib.hid hTb
   replace hscan:=Lib.hid hscan
   generalize (showE P:Int)=E at hz0 ⊢
   clear hnb hnl hr2 hr9 hz
   go_upto_block 0 with fail
   go_wp2_with fail
   go_loopw [5,6,7] (fun want i _ wr=>∃k N:Nat,want=.int .i64 N∧i=.int .i64 k∧k≤n∧Hid (N=linesP (P.take k))∧wr=w4) (fun _ i _ _=>n-(intOf i).toNat)
   case atStart=>exact⟨0,0,rfl,rfl,Nat.zero_le _,Lib.hid (by simp [linesP]),rfl⟩
   case round=>
    obtain⟨k,N,rfl,rfl,hk,hN,rfl⟩:=hrel
    by_cases hkn:k<n
    ·have i1:(k:Int)<(n:Int):=by omega
     obtain⟨d,hd⟩:∃d,P[k]?=some d:=⟨_,List.getElem?_eq_getElem (by rw [←hn.out];exact hkn)⟩
     have hld:=hL.out.2 d (List.mem_of_getElem? hd)
     have hNl:N≤985040:=by
      have:=linesP_le (P:=P.take k) (fun z hz=>hL.out.2 z (List.mem_of_mem_take hz))
      rw [hN.out]
      have e:(P.take k).length≤P.length:=by rw [List.length_take];omega
      omega
     obtain⟨g,off,cap,cs,e,hgl,⟨vp,vb,rfl,rp,rb⟩,-,hcell⟩:=h.out.at hd
     rw [←hn.out] at e
     simp only [Value.slice.injEq] at e
     obtain⟨rfl,-,rfl⟩:=e
     obtain⟨ab,cb,rfl⟩:=rb.form
     have hWr:=hw2.out.trans (hB4.out.mono hw2.out.size)
     obtain⟨nb,hnb⟩:∃m,m=d.blocks.length:=⟨_,rfl⟩
     rw [←hnb] at rb hcell
     have e2:wr.cell? ⟨g,off+k*3+2,none⟩=some (.slice ab nb cb):=keepB hWr hgl (hcell 2 _ rfl)
     have m1:IntKind.i64.wrap ((N:Int)+2)=(N:Int)+2:=by rw [IntKind.wrap_i64];omega
     have hgw:g<wr.heap.size:=Nat.lt_of_lt_of_le hgl hWr.size
     have hnb70:nb≤70:=by rw [hnb];exact hld.2.1
     replace hnb:=Lib.hid hnb
     replace hd:=Lib.hid hd
     replace hld:=Lib.hid hld
     replace rb:=Lib.hid rb
     replace hWr:=Lib.hid hWr
     replace hN:=Lib.hid hN.out
     clear hcell rp hgl
     go_upto_block 2 with fail
     go_wp2_with fail
     go_loopw [5,7] (fun want i wx=>∃j M:Nat,want=.int .i64 M∧i=.int .i64 j∧j≤nb∧Hid (M=N+2+linesB (d.blocks.take j))∧wx=wr) (fun _ i _=>nb-(intOf i).toNat)
     case atStart=>exact⟨0,N+2,by simp [m1],rfl,Nat.zero_le _,Lib.hid (by simp [linesB]),rfl⟩
     case round=>
      obtain⟨j,M,rfl,rfl,hj,hM,rfl⟩:=hrel
      by_cases hjn:j<nb
      ·have i2:(j:Int)<(nb:Int):=by omega
       obtain⟨x,hx⟩:∃x,d.blocks[j]?=some x:=⟨_,List.getElem?_eq_getElem (by rw [←hnb.out];exact hjn)⟩
       have hxc:=(hld.out.2.2 x (List.mem_of_getElem? hx)).1
       have hMl:M≤N+2+14070:=by
        have h1:=linesB_le (l:=d.blocks.take j) (fun z hz=>(hld.out.2.2 z (List.mem_of_mem_take hz)).1)
        have h2:(d.blocks.take j).length≤70:=by rw [List.length_take];omega
        rw [hM.out]
        omega
       obtain⟨g2,off2,cap2,cs2,e3,hg2,⟨vc,rfl,rc⟩,-,hcell2⟩:=rb.out.at hx
       rw [←hnb.out] at e3
       simp only [Value.slice.injEq] at e3
       obtain⟨rfl,-,rfl⟩:=e3
       obtain⟨ac,cc,rfl⟩:=rc.form
       have e4:=keepB hWr.out hg2 (hcell2 1 _ rfl)
       have hg2w:=Nat.lt_of_lt_of_le hg2 hWr.out.size
       have m2:IntKind.i64.wrap ((M:Int)+1)=(M:Int)+1:=by rw [IntKind.wrap_i64];omega
       have m3:IntKind.i64.wrap ((M:Int)+1+(x.code.length:Int))=(M:Int)+1+(x.code.length:Int):=by rw [IntKind.wrap_i64];omega
       have hM2:=Lib.hid (show M+1+x.code.length=N+2+linesB (d.blocks.take (j+1)) from by rw [linesB_snoc hx,←Nat.add_assoc,←hM.out];omega)
       clear hcell2 hx hM hMl rc hg2
       go_wp2_with fail
       go_roundw
       case rel=>exact⟨j+1,M+1+x.code.length,by simp,by go_num,by omega,hM2,by first | rfl | trivial⟩
       case measure=>simp [intOf];omega
      ·have i2:decide ((j:Int)<(nb:Int))=false:=by simp;omega
       obtain rfl:j=nb:=by omega
       have hN2:=Lib.hid (show M=linesP (P.take (k+1)) from by
        rw [lines_snoc hd.out,←hN.out,hM.out,List.take_of_length_le (by rw [←hnb.out];exact Nat.le_refl _)]
        unfold linesF linesB
        omega)
       clear hM
       go_wp2_with fail
       go_roundw
       case rel=>exact⟨k+1,M,rfl,by go_num,by omega,hN2,by first | rfl | trivial⟩
       case measure=>simp [intOf];omega
    ·have i1:decide ((k:Int)<(n:Int))=false:=by simp;omega
     obtain rfl:k=n:=by omega
     have hNP:N=linesP P:=by rw [hN.out,List.take_of_length_le (by rw [←hn.out];exact Nat.le_refl _)]
     replace hNP:=Lib.hid hNP
     replace hN:=Lib.hid hN
     go_upto_block 4 with fail
     go_wp2_with fail
     clear c0
     go_loopw [8,9,10,11] (fun got fr i _ wx=>∃j g p:Nat,∃q:UInt8,∃F:Int,got=.int .i64 g∧fr=.int .i64 F∧i=.int .i64 j∧j≤T.size∧Hid (scanT ((bL T).take j) (0,0,0)=some (g,p,q)∧p≤j∧g≤j∧(0<p→(bL T)[j-1]?=some q)∧F=(j:Int)-p)∧wx=wr) (fun _ _ i _ _=>T.size-(intOf i).toNat)
     case atStart=>exact⟨0,0,0,0,0,rfl,rfl,rfl,Nat.zero_le _,Lib.hid ⟨rfl,Nat.le_refl _,Nat.le_refl _,fun h=>absurd h (by decide),rfl⟩,rfl⟩
     case round=>
      obtain⟨j,g,p,q,F,rfl,rfl,rfl,hj,hS,rfl⟩:=hrel
      by_cases hjn:j<T.size
      ·have i2:(j:Int)<(T.size:Int):=by omega
       obtain⟨hS1,hS2,hS3,hS4,hF⟩:=hS.out
       have hjl:j<(bL T).length:=hjn
       obtain⟨c,hc⟩:∃c,(bL T)[j]?=some c:=⟨_,List.getElem?_eq_getElem hjl⟩
       obtain⟨st',hst,hst2⟩:=scan_step hc hS1 hscan.out
       have hcT:T[j]=c:=by
        have e:=(List.getElem?_eq_some_iff.1 hc).2
        rw [←e]
        rfl
       by_cases hc10:c.toNat=10
       ·obtain⟨hp0,hq32,rfl⟩:=step_nl hst hc10
        have hq:=hS4 (by omega)
        have g1:((T[j].toNat:Int)==10)=true:=by rw [hcT,hc10];rfl
        have g2:((j:Int)==F)=false:=by rw [hF];simp;omega
        have hj1:j-1<T.size:=by omega
        have hqT:T[j-1]=q:=by
         have e:=(List.getElem?_eq_some_iff.1 hq).2
         rw [←e]
         rfl
        have g3:((T[j-1].toNat:Int)==32)=false:=by rw [hqT];simp;omega
        have m1:IntKind.i64.wrap ((g:Int)+1)=(g:Int)+1:=by rw [IntKind.wrap_i64];omega
        have m2:IntKind.i64.wrap ((j:Int)+1)=(j:Int)+1:=by rw [IntKind.wrap_i64];omega
        have m3:IntKind.i64.wrap ((j:Int)-1)=((j-1:Nat):Int):=by rw [IntKind.wrap_i64];omega
        have hS':=Lib.hid (show scanT ((bL T).take (j+1)) (0,0,0)=some (g+1,0,c)∧0≤j+1∧g+1≤j+1∧(0<0→(bL T)[j+1-1]?=some c)∧(j:Int)+1=((j+1:Nat):Int)-(0:Nat) from ⟨hst2,Nat.zero_le _,by omega,fun h=>by omega,by simp⟩)
        clear hS hS1 hS2 hS3 hS4 hF hst hst2 hq hc hcT hqT
        go_wp2_with fail
        go_roundw
        case rel=>exact⟨j+1,g+1,0,c,_,by simp,rfl,by go_num,by omega,hS',by first | rfl | trivial⟩
        case measure=>simp [intOf];omega
       ·obtain⟨hr,hb,rfl⟩:=step_in hst hc10
        have g1:((T[j].toNat:Int)==10)=false:=by rw [hcT];simp;omega
        have m2:IntKind.i64.wrap ((j:Int)+1)=(j:Int)+1:=by rw [IntKind.wrap_i64];omega
        have m4:IntKind.i64.wrap (F+1)=F+1:=by rw [hF,IntKind.wrap_i64];omega
        have hS':=Lib.hid (show scanT ((bL T).take (j+1)) (0,0,0)=some (g,p+1,c)∧p+1≤j+1∧g≤j+1∧(0<p+1→(bL T)[j+1-1]?=some c)∧F=((j+1:Nat):Int)-(p+1:Nat) from ⟨hst2,by omega,by omega,fun _=>hc,by rw [hF];omega⟩)
        by_cases hc32:c.toNat=32
        ·have g4:(T[j].toNat:Int)=32:=by rw [hcT,hc32];rfl
         clear g1
         by_cases hp1:p≤1
         ·have g6:decide ((j:Int) > F+1)=false:=by rw [hF];simp;omega
          have v6:¬(F+1<(j:Int)):=by rw [hF];omega
          clear hS hS1 hS2 hS3 hS4 hF hst hst2 hc hcT hb
          go_wp2_with fail
          go_roundw
          case rel=>exact⟨j+1,g,p+1,c,_,rfl,rfl,by go_num,by omega,hS',by first | rfl | trivial⟩
          case measure=>simp [intOf];omega
         ·have g6:decide ((j:Int) > F+1)=true:=by rw [hF];simp;omega
          have v6:F+1<(j:Int):=by rw [hF];omega
          have hq:=hS4 (by omega)
          have hq32:q.toNat≠32:=by rcases hb hc32 with h1 | h1;omega;exact h1
          have hj1:j-1<T.size:=by omega
          have hqT:T[j-1]=q:=by
           have e:=(List.getElem?_eq_some_iff.1 hq).2
           rw [←e]
           rfl
          have g3:((T[j-1].toNat:Int)==32)=false:=by rw [hqT];simp;omega
          have v3:¬((T[j-1].toNat:Int)=32):=by rw [hqT];omega
          have m3:IntKind.i64.wrap ((j:Int)-1)=((j-1:Nat):Int):=by rw [IntKind.wrap_i64];omega
          clear hS hS1 hS2 hS3 hS4 hF hst hst2 hq hc hcT hqT hb
          go_wp2_with fail
          go_roundw
          case rel=>exact⟨j+1,g,p+1,c,_,rfl,rfl,by go_num,by omega,hS',by first | rfl | trivial⟩
          case measure=>simp [intOf];omega
        ·have g4:((T[j].toNat:Int) != 32)=true:=by rw [hcT];simp;omega
         have g5:((T[j].toNat:Int)==32)=false:=by rw [hcT];simp;omega
         have g7:decide ((T[j].toNat:Int)<33)=false:=by rw [hcT];simp;omega
         have g8:decide ((T[j].toNat:Int) > 126)=false:=by rw [hcT];simp;omega
         have v1:¬((T[j].toNat:Int)=32):=by rw [hcT];omega
         have v2:(33:Int)≤(T[j].toNat:Int):=by rw [hcT];omega
         have v3:(T[j].toNat:Int)≤126:=by rw [hcT];omega
         clear hS hS1 hS2 hS3 hS4 hF hst hst2 hc hcT hb
         go_wp2_with fail
         go_roundw
         case rel=>exact⟨j+1,g,p+1,c,_,rfl,rfl,by go_num,by omega,hS',by first | rfl | trivial⟩
         case measure=>simp [intOf];omega
      ·have i2:decide ((j:Int)<(T.size:Int))=false:=by simp;omega
       obtain rfl:j=T.size:=by omega
       obtain⟨hS1,-,-,-,hF⟩:=hS.out
       have e0:(bL T).take T.size=bL T:=List.take_of_length_le (Nat.le_refl _)
       rw [e0,hscan.out] at hS1
       simp only [Option.some.injEq,Prod.mk.injEq] at hS1
       obtain⟨e1,e2,-⟩:=hS1
       have g1:((g:Int)==(N:Int))=true:=by rw [hNP.out,←e1];simp
       have g2:(F==(T.size:Int))=true:=by rw [hF,←e2];simp
       clear hS hF e0 e1 e2
       go_wp2_with fail
       refine (tells_any _).mono ?_
       rintro e w5 ⟨rfl,hb5⟩
       dsimp only
       have hfin:=Lib.hid (hw2.out.trans ((hB4.out.trans (hb5.mono hB4.out.size)).mono hw2.out.size))
       clear hb5
       go_wp2_with fail
       go_ret
       exact⟨rfl,hfin.out⟩
  ·have hz0:((showE P:Int) != 0)=true:=by simp;exact hz
   have hS:showS P=⟨#[]⟩:=by
    unfold showE at hz
    unfold showS
    by_cases h1:brokenP P=true
    ·rw [if_pos h1]
    ·rw [if_neg h1] at hz ⊢
     by_cases h2:1048576<(progT P).length
     ·rw [if_pos h2]
     ·rw [if_neg h2] at hz
      exact absurd rfl hz
   rw [hS]
   generalize (showE P:Int)=E at hz0 ⊢
   clear hS hz
   go_wp2_with fail
   refine (tells_any w4).mono ?_
   rintro e w5 ⟨rfl,hb5⟩
   dsimp only
   have hfin:=Lib.hid (hw2.out.trans ((hB4.out.trans (hb5.mono hB4.out.size)).mono hw2.out.size))
   clear hb5
   go_wp2_with fail
   go_ret
   exact⟨rfl,hfin.out⟩
end
section
open Go.RowKit Go.Maps Go.WideShapes Go.ChangeShapes Go.ChangeAt Go.Deep
def RdPrgC (w:World)(cs:List Value)(P:List Fun):Prop:=∃v,cs=[v]∧RdE 3 RdFunC w v P
theorem rd_prg_c {H:Type}{enc:TypeId × Value→H}{w:World}{n:Nat}{cs:List Value}{x:DataW H × List MemPlace}(hn:DataW.trod enc Tryz.prog w 0 (fun _=>true) true n 24 cs=some x):∃P:List Fun,RdPrgC w cs P∧PrgFits P:=by
 obtain⟨xs,m,rfl,rfl,hl,hxl,hf⟩:=DataW.trod_struct Tryz.underlying24 hn
 rw [cellsPrg] at hl
 obtain⟨c0,rfl⟩:=List.length_eq_one_iff.1 hl
 have hg:=fun i f hi v hv=>field_one (by kernel_rfl) hxl hf (i:=i) (f:=f) hi (v:=v) hv
 obtain⟨y0,h0⟩:=hg 0 _ rfl _ rfl
 obtain⟨v,L,e1,r1,w1,l1⟩:=rd_elems_in (R:=RdFunC) (F:=Fun.Fits) Tryz.underlying22 cellsFun (by decide) (fun n cs x h=>rd_fun_c h) h0
 exact⟨L,⟨v,e1,r1⟩,w1,l1⟩
end
end Go.Proofs.YtknkiaedgeejiaaGreatDoor
