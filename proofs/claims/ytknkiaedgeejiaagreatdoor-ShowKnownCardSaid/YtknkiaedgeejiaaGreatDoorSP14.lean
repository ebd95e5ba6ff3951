/- SwH, SwI. -/
import Derived.Test.YtknkiaedgeejiaaGreatDoorSP13
import Derived.Laws.EntriesVeiled
namespace Go.Proofs.YtknkiaedgeejiaaGreatDoor
set_option linter.unusedVariables false
set_option linter.unusedSimpArgs false
section
open Go.RowKit Go.Maps Go.Shelf Go.WideMaps
attribute [local go_sem] Oper.semAt_some
theorem lawOp:Keyed Tryz.prog 44:=int_keyed Tryz.underlying44
theorem eval6 {a:Act}{d:Nat}{v:Value}(h:a.tmps[d]?=some v):a.eval (.tmp d)=v:=by simp [Act.eval,h]
theorem keyO {k:Int}(h:(Lit.int .u8 k).wf=true):keyOf Tryz.prog 44 (.int .u8 k)=some (.int .u8 k):=keyOf_int_mk Tryz.underlying44 h
section
variable {a0:Act} {w0:World} {listed:Array Bool} {a:Act} {w:World} {Q:Exit→Act→World→Prop} {b1 b2 b5 b6:Nat}
set_option maxRecDepth 20000 in
set_option maxHeartbeats 2000000 in
theorem step8_0 {o:Oper}(E:F0 b1 b2 b5 b6 a0 w0)(ho:ops8[0]?=some o)(hi:listed[0]?=some false)(H:FI b1 b2 b5 b6 a0 w0 listed a w)(hdep:∀e∈o.after,Region.binds .any e=true→listed[e.on]?=some true):o.wp Tryz.prog a w (fun a' w'=>FI b1 b2 b5 b6 a0 w0 (listed.setIfInBounds 0 true) a' w') Q:=by
 have hmm:=@run_makeMap Tryz.prog
 have ho2:=ho
 have e:(ops8[0]?).get (by kernel_rfl)=o:=by simp [ho]
 conv at e=>lhs;whnf
 subst e
 unfold Oper.wp
 go_simp
 exact H.make ho2 rfl hi
set_option maxRecDepth 20000 in
set_option maxHeartbeats 2000000 in
theorem step8_1 {o:Oper}(E:F0 b1 b2 b5 b6 a0 w0)(ho:ops8[1]?=some o)(hi:listed[1]?=some false)(H:FI b1 b2 b5 b6 a0 w0 listed a w)(hdep:∀e∈o.after,Region.binds .any e=true→listed[e.on]?=some true):o.wp Tryz.prog a w (fun a' w'=>FI b1 b2 b5 b6 a0 w0 (listed.setIfInBounds 1 true) a' w') Q:=by
 have g1:=getD_of ((H.rest 1 (by decide) (by decide)).trans E.s1)
 have y:=(H.box E.h1).1
 have ho2:=ho
 have e:(ops8[1]?).get (by kernel_rfl)=o:=by simp [ho]
 conv at e=>lhs;whnf
 subst e
 unfold Oper.wp
 go_simp
 exact H.go ho2 rfl hi (by decide) ⟨by decide,by decide,by decide,fun κ h=>by simp [insL] at h⟩ (Below.refl _ _) (rfl)
set_option maxRecDepth 20000 in
set_option maxHeartbeats 2000000 in
theorem step8_2 {o:Oper}(E:F0 b1 b2 b5 b6 a0 w0)(ho:ops8[2]?=some o)(hi:listed[2]?=some false)(H:FI b1 b2 b5 b6 a0 w0 listed a w)(hdep:∀e∈o.after,Region.binds .any e=true→listed[e.on]?=some true):o.wp Tryz.prog a w (fun a' w'=>FI b1 b2 b5 b6 a0 w0 (listed.setIfInBounds 2 true) a' w') Q:=by
 have g6:=getD_of ((H.rest 6 (by decide) (by decide)).trans E.s6)
 have y:=(H.box E.h6).1
 have ho2:=ho
 have e:(ops8[2]?).get (by kernel_rfl)=o:=by simp [ho]
 conv at e=>lhs;whnf
 subst e
 unfold Oper.wp
 go_simp
 exact H.go ho2 rfl hi (by decide) ⟨by decide,by decide,by decide,fun κ h=>by simp [insL] at h⟩ (Below.refl _ _) (rfl)
set_option maxRecDepth 20000 in
set_option maxHeartbeats 2000000 in
theorem step8_3 {o:Oper}(E:F0 b1 b2 b5 b6 a0 w0)(ho:ops8[3]?=some o)(hi:listed[3]?=some false)(H:FI b1 b2 b5 b6 a0 w0 listed a w)(hdep:∀e∈o.after,Region.binds .any e=true→listed[e.on]?=some true):o.wp Tryz.prog a w (fun a' w'=>FI b1 b2 b5 b6 a0 w0 (listed.setIfInBounds 3 true) a' w') Q:=by
 obtain⟨v1,e1,h1⟩:=H.val 1 10 (by kernel_rfl) (dep_of ho hdep (by kernel_rfl))
 replace h1:v1=.func (.func 34) #[] #[]:=h1
 subst h1
 have g1:=getD_of e1
 obtain⟨v2,e2,h2⟩:=H.val 2 11 (by kernel_rfl) (dep_of ho hdep (by kernel_rfl))
 replace h2:v2=.func (.func 42) #[] #[]:=h2
 subst h2
 have g2:=getD_of e2
 have ho2:=ho
 have e:(ops8[3]?).get (by kernel_rfl)=o:=by simp [ho]
 conv at e=>lhs;whnf
 subst e
 unfold Oper.wp
 go_simp
 refine Calls.mono (mk1_any ⟨#[97,108,108,111,99,97]⟩ fm6 (by decide)) ?_
 rintro e w' ⟨v,rfl,hF,hb⟩
 exact H.go ho2 rfl hi (by decide) ⟨by decide,by decide,by decide,fun κ h=>by simp [insL] at h⟩ (hb) ((hF.more (by decide)).less (fun d h=>trivial))
set_option maxRecDepth 20000 in
set_option maxHeartbeats 2000000 in
theorem step8_4 {o:Oper}(E:F0 b1 b2 b5 b6 a0 w0)(ho:ops8[4]?=some o)(hi:listed[4]?=some false)(H:FI b1 b2 b5 b6 a0 w0 listed a w)(hdep:∀e∈o.after,Region.binds .any e=true→listed[e.on]?=some true):o.wp Tryz.prog a w (fun a' w'=>FI b1 b2 b5 b6 a0 w0 (listed.setIfInBounds 4 true) a' w') Q:=by
 have h0:=dep_of (k:=0) ho hdep (by kernel_rfl)
 obtain⟨b,f,n,h1,h2,h3,h4,h5,h6,h7⟩:=H.map h0
 obtain⟨v,ev,hv⟩:=H.val 3 12 (by kernel_rfl) (dep_of ho hdep (by kernel_rfl))
 replace hv:FormAt w v (formG 1) (formR 1) 2010:=hv
 have ho2:=ho
 have e:(ops8[4]?).get (by kernel_rfl)=o:=by simp [ho]
 conv at e=>lhs;whnf
 subst e
 refine wp_vmap_ins rfl (k:=44) (e:=93) lawOp Tryz.underlying57 h3 (by unfold maxLen;omega) (eval6 h1) (key:=.int .u8 1) rfl (eval6 ev) (keyO (by decide)) ?_
 intro w' hM hT
 exact H.ins (κ:=1) (by simp [insL]) ho2 rfl hi h0 h1 h2 h3 h4 h5 h6 h7 hv hM hT
set_option maxRecDepth 20000 in
set_option maxHeartbeats 2000000 in
theorem step8_5 {o:Oper}(E:F0 b1 b2 b5 b6 a0 w0)(ho:ops8[5]?=some o)(hi:listed[5]?=some false)(H:FI b1 b2 b5 b6 a0 w0 listed a w)(hdep:∀e∈o.after,Region.binds .any e=true→listed[e.on]?=some true):o.wp Tryz.prog a w (fun a' w'=>FI b1 b2 b5 b6 a0 w0 (listed.setIfInBounds 5 true) a' w') Q:=by
 have g1:=getD_of ((H.rest 1 (by decide) (by decide)).trans E.s1)
 have y:=(H.box E.h1).1
 have ho2:=ho
 have e:(ops8[5]?).get (by kernel_rfl)=o:=by simp [ho]
 conv at e=>lhs;whnf
 subst e
 unfold Oper.wp
 go_simp
 exact H.go ho2 rfl hi (by decide) ⟨by decide,by decide,by decide,fun κ h=>by simp [insL] at h⟩ (Below.refl _ _) (rfl)
set_option maxRecDepth 20000 in
set_option maxHeartbeats 2000000 in
theorem step8_6 {o:Oper}(E:F0 b1 b2 b5 b6 a0 w0)(ho:ops8[6]?=some o)(hi:listed[6]?=some false)(H:FI b1 b2 b5 b6 a0 w0 listed a w)(hdep:∀e∈o.after,Region.binds .any e=true→listed[e.on]?=some true):o.wp Tryz.prog a w (fun a' w'=>FI b1 b2 b5 b6 a0 w0 (listed.setIfInBounds 6 true) a' w') Q:=by
 have g6:=getD_of ((H.rest 6 (by decide) (by decide)).trans E.s6)
 have y:=(H.box E.h6).1
 have ho2:=ho
 have e:(ops8[6]?).get (by kernel_rfl)=o:=by simp [ho]
 conv at e=>lhs;whnf
 subst e
 unfold Oper.wp
 go_simp
 exact H.go ho2 rfl hi (by decide) ⟨by decide,by decide,by decide,fun κ h=>by simp [insL] at h⟩ (Below.refl _ _) (rfl)
set_option maxRecDepth 20000 in
set_option maxHeartbeats 2000000 in
theorem step8_7 {o:Oper}(E:F0 b1 b2 b5 b6 a0 w0)(ho:ops8[7]?=some o)(hi:listed[7]?=some false)(H:FI b1 b2 b5 b6 a0 w0 listed a w)(hdep:∀e∈o.after,Region.binds .any e=true→listed[e.on]?=some true):o.wp Tryz.prog a w (fun a' w'=>FI b1 b2 b5 b6 a0 w0 (listed.setIfInBounds 7 true) a' w') Q:=by
 obtain⟨v5,e5,h5⟩:=H.val 5 13 (by kernel_rfl) (dep_of ho hdep (by kernel_rfl))
 replace h5:v5=.func (.func 34) #[] #[]:=h5
 subst h5
 have g5:=getD_of e5
 obtain⟨v6,e6,h6⟩:=H.val 6 14 (by kernel_rfl) (dep_of ho hdep (by kernel_rfl))
 replace h6:v6=.func (.func 42) #[] #[]:=h6
 subst h6
 have g6:=getD_of e6
 have ho2:=ho
 have e:(ops8[7]?).get (by kernel_rfl)=o:=by simp [ho]
 conv at e=>lhs;whnf
 subst e
 unfold Oper.wp
 go_simp
 refine Calls.mono (mk1_any ⟨#[109,97,108,108,111,99]⟩ fm6 (by decide)) ?_
 rintro e w' ⟨v,rfl,hF,hb⟩
 exact H.go ho2 rfl hi (by decide) ⟨by decide,by decide,by decide,fun κ h=>by simp [insL] at h⟩ (hb) ((hF.more (by decide)).less (fun d h=>trivial))
set_option maxRecDepth 20000 in
set_option maxHeartbeats 2000000 in
theorem step8_8 {o:Oper}(E:F0 b1 b2 b5 b6 a0 w0)(ho:ops8[8]?=some o)(hi:listed[8]?=some false)(H:FI b1 b2 b5 b6 a0 w0 listed a w)(hdep:∀e∈o.after,Region.binds .any e=true→listed[e.on]?=some true):o.wp Tryz.prog a w (fun a' w'=>FI b1 b2 b5 b6 a0 w0 (listed.setIfInBounds 8 true) a' w') Q:=by
 have h0:=dep_of (k:=0) ho hdep (by kernel_rfl)
 obtain⟨b,f,n,h1,h2,h3,h4,h5,h6,h7⟩:=H.map h0
 obtain⟨v,ev,hv⟩:=H.val 7 15 (by kernel_rfl) (dep_of ho hdep (by kernel_rfl))
 replace hv:FormAt w v (formG 2) (formR 2) 2010:=hv
 have ho2:=ho
 have e:(ops8[8]?).get (by kernel_rfl)=o:=by simp [ho]
 conv at e=>lhs;whnf
 subst e
 refine wp_vmap_ins rfl (k:=44) (e:=93) lawOp Tryz.underlying57 h3 (by unfold maxLen;omega) (eval6 h1) (key:=.int .u8 2) rfl (eval6 ev) (keyO (by decide)) ?_
 intro w' hM hT
 exact H.ins (κ:=2) (by simp [insL]) ho2 rfl hi h0 h1 h2 h3 h4 h5 h6 h7 hv hM hT
set_option maxRecDepth 20000 in
set_option maxHeartbeats 2000000 in
theorem step8_9 {o:Oper}(E:F0 b1 b2 b5 b6 a0 w0)(ho:ops8[9]?=some o)(hi:listed[9]?=some false)(H:FI b1 b2 b5 b6 a0 w0 listed a w)(hdep:∀e∈o.after,Region.binds .any e=true→listed[e.on]?=some true):o.wp Tryz.prog a w (fun a' w'=>FI b1 b2 b5 b6 a0 w0 (listed.setIfInBounds 9 true) a' w') Q:=by
 have g1:=getD_of ((H.rest 1 (by decide) (by decide)).trans E.s1)
 have y:=(H.box E.h1).1
 have ho2:=ho
 have e:(ops8[9]?).get (by kernel_rfl)=o:=by simp [ho]
 conv at e=>lhs;whnf
 subst e
 unfold Oper.wp
 go_simp
 exact H.go ho2 rfl hi (by decide) ⟨by decide,by decide,by decide,fun κ h=>by simp [insL] at h⟩ (Below.refl _ _) (rfl)
set_option maxRecDepth 20000 in
set_option maxHeartbeats 2000000 in
theorem step8_10 {o:Oper}(E:F0 b1 b2 b5 b6 a0 w0)(ho:ops8[10]?=some o)(hi:listed[10]?=some false)(H:FI b1 b2 b5 b6 a0 w0 listed a w)(hdep:∀e∈o.after,Region.binds .any e=true→listed[e.on]?=some true):o.wp Tryz.prog a w (fun a' w'=>FI b1 b2 b5 b6 a0 w0 (listed.setIfInBounds 10 true) a' w') Q:=by
 have g4:=getD_of ((H.rest 4 (by decide) (by decide)).trans E.s4)
 have ho2:=ho
 have e:(ops8[10]?).get (by kernel_rfl)=o:=by simp [ho]
 conv at e=>lhs;whnf
 subst e
 unfold Oper.wp
 go_simp
 exact H.go ho2 rfl hi (by decide) ⟨by decide,by decide,by decide,fun κ h=>by simp [insL] at h⟩ (Below.refl _ _) (rfl)
set_option maxRecDepth 20000 in
set_option maxHeartbeats 2000000 in
theorem step8_11 {o:Oper}(E:F0 b1 b2 b5 b6 a0 w0)(ho:ops8[11]?=some o)(hi:listed[11]?=some false)(H:FI b1 b2 b5 b6 a0 w0 listed a w)(hdep:∀e∈o.after,Region.binds .any e=true→listed[e.on]?=some true):o.wp Tryz.prog a w (fun a' w'=>FI b1 b2 b5 b6 a0 w0 (listed.setIfInBounds 11 true) a' w') Q:=by
 obtain⟨v9,e9,h9⟩:=H.val 9 16 (by kernel_rfl) (dep_of ho hdep (by kernel_rfl))
 replace h9:v9=.func (.func 34) #[] #[]:=h9
 subst h9
 have g9:=getD_of e9
 obtain⟨v10,e10,h10⟩:=H.val 10 17 (by kernel_rfl) (dep_of ho hdep (by kernel_rfl))
 replace h10:v10=.func (.func 40) #[] #[]:=h10
 subst h10
 have g10:=getD_of e10
 have ho2:=ho
 have e:(ops8[11]?).get (by kernel_rfl)=o:=by simp [ho]
 conv at e=>lhs;whnf
 subst e
 unfold Oper.wp
 go_simp
 refine Calls.mono (mk1_any ⟨#[110,117,108,108]⟩ fm4 (by decide)) ?_
 rintro e w' ⟨v,rfl,hF,hb⟩
 exact H.go ho2 rfl hi (by decide) ⟨by decide,by decide,by decide,fun κ h=>by simp [insL] at h⟩ (hb) ((hF.more (by decide)).less (fun d h=>trivial))
set_option maxRecDepth 20000 in
set_option maxHeartbeats 2000000 in
theorem step8_12 {o:Oper}(E:F0 b1 b2 b5 b6 a0 w0)(ho:ops8[12]?=some o)(hi:listed[12]?=some false)(H:FI b1 b2 b5 b6 a0 w0 listed a w)(hdep:∀e∈o.after,Region.binds .any e=true→listed[e.on]?=some true):o.wp Tryz.prog a w (fun a' w'=>FI b1 b2 b5 b6 a0 w0 (listed.setIfInBounds 12 true) a' w') Q:=by
 have h0:=dep_of (k:=0) ho hdep (by kernel_rfl)
 obtain⟨b,f,n,h1,h2,h3,h4,h5,h6,h7⟩:=H.map h0
 obtain⟨v,ev,hv⟩:=H.val 11 18 (by kernel_rfl) (dep_of ho hdep (by kernel_rfl))
 replace hv:FormAt w v (formG 3) (formR 3) 2010:=hv
 have ho2:=ho
 have e:(ops8[12]?).get (by kernel_rfl)=o:=by simp [ho]
 conv at e=>lhs;whnf
 subst e
 refine wp_vmap_ins rfl (k:=44) (e:=93) lawOp Tryz.underlying57 h3 (by unfold maxLen;omega) (eval6 h1) (key:=.int .u8 3) rfl (eval6 ev) (keyO (by decide)) ?_
 intro w' hM hT
 exact H.ins (κ:=3) (by simp [insL]) ho2 rfl hi h0 h1 h2 h3 h4 h5 h6 h7 hv hM hT
set_option maxRecDepth 20000 in
set_option maxHeartbeats 2000000 in
theorem step8_13 {o:Oper}(E:F0 b1 b2 b5 b6 a0 w0)(ho:ops8[13]?=some o)(hi:listed[13]?=some false)(H:FI b1 b2 b5 b6 a0 w0 listed a w)(hdep:∀e∈o.after,Region.binds .any e=true→listed[e.on]?=some true):o.wp Tryz.prog a w (fun a' w'=>FI b1 b2 b5 b6 a0 w0 (listed.setIfInBounds 13 true) a' w') Q:=by
 have g1:=getD_of ((H.rest 1 (by decide) (by decide)).trans E.s1)
 have y:=(H.box E.h1).1
 have ho2:=ho
 have e:(ops8[13]?).get (by kernel_rfl)=o:=by simp [ho]
 conv at e=>lhs;whnf
 subst e
 unfold Oper.wp
 go_simp
 exact H.go ho2 rfl hi (by decide) ⟨by decide,by decide,by decide,fun κ h=>by simp [insL] at h⟩ (Below.refl _ _) (rfl)
set_option maxRecDepth 20000 in
set_option maxHeartbeats 2000000 in
theorem step8_14 {o:Oper}(E:F0 b1 b2 b5 b6 a0 w0)(ho:ops8[14]?=some o)(hi:listed[14]?=some false)(H:FI b1 b2 b5 b6 a0 w0 listed a w)(hdep:∀e∈o.after,Region.binds .any e=true→listed[e.on]?=some true):o.wp Tryz.prog a w (fun a' w'=>FI b1 b2 b5 b6 a0 w0 (listed.setIfInBounds 14 true) a' w') Q:=by
 obtain⟨v13,e13,h13⟩:=H.val 13 19 (by kernel_rfl) (dep_of ho hdep (by kernel_rfl))
 replace h13:v13=.func (.func 34) #[] #[]:=h13
 subst h13
 have g13:=getD_of e13
 have ho2:=ho
 have e:(ops8[14]?).get (by kernel_rfl)=o:=by simp [ho]
 conv at e=>lhs;whnf
 subst e
 unfold Oper.wp
 go_simp
 refine Calls.mono (mk1_any ⟨#[97,100,100,114]⟩ fm8 (by decide)) ?_
 rintro e w' ⟨v,rfl,hF,hb⟩
 exact H.go ho2 rfl hi (by decide) ⟨by decide,by decide,by decide,fun κ h=>by simp [insL] at h⟩ (hb) ((hF.more (by decide)).less (fun d h=>trivial))
set_option maxRecDepth 20000 in
set_option maxHeartbeats 2000000 in
theorem step8_15 {o:Oper}(E:F0 b1 b2 b5 b6 a0 w0)(ho:ops8[15]?=some o)(hi:listed[15]?=some false)(H:FI b1 b2 b5 b6 a0 w0 listed a w)(hdep:∀e∈o.after,Region.binds .any e=true→listed[e.on]?=some true):o.wp Tryz.prog a w (fun a' w'=>FI b1 b2 b5 b6 a0 w0 (listed.setIfInBounds 15 true) a' w') Q:=by
 have h0:=dep_of (k:=0) ho hdep (by kernel_rfl)
 obtain⟨b,f,n,h1,h2,h3,h4,h5,h6,h7⟩:=H.map h0
 obtain⟨v,ev,hv⟩:=H.val 14 20 (by kernel_rfl) (dep_of ho hdep (by kernel_rfl))
 replace hv:FormAt w v (formG 4) (formR 4) 2010:=hv
 have ho2:=ho
 have e:(ops8[15]?).get (by kernel_rfl)=o:=by simp [ho]
 conv at e=>lhs;whnf
 subst e
 refine wp_vmap_ins rfl (k:=44) (e:=93) lawOp Tryz.underlying57 h3 (by unfold maxLen;omega) (eval6 h1) (key:=.int .u8 4) rfl (eval6 ev) (keyO (by decide)) ?_
 intro w' hM hT
 exact H.ins (κ:=4) (by simp [insL]) ho2 rfl hi h0 h1 h2 h3 h4 h5 h6 h7 hv hM hT
set_option maxRecDepth 20000 in
set_option maxHeartbeats 2000000 in
theorem step8_16 {o:Oper}(E:F0 b1 b2 b5 b6 a0 w0)(ho:ops8[16]?=some o)(hi:listed[16]?=some false)(H:FI b1 b2 b5 b6 a0 w0 listed a w)(hdep:∀e∈o.after,Region.binds .any e=true→listed[e.on]?=some true):o.wp Tryz.prog a w (fun a' w'=>FI b1 b2 b5 b6 a0 w0 (listed.setIfInBounds 16 true) a' w') Q:=by
 have g1:=getD_of ((H.rest 1 (by decide) (by decide)).trans E.s1)
 have y:=(H.box E.h1).1
 have ho2:=ho
 have e:(ops8[16]?).get (by kernel_rfl)=o:=by simp [ho]
 conv at e=>lhs;whnf
 subst e
 unfold Oper.wp
 go_simp
 exact H.go ho2 rfl hi (by decide) ⟨by decide,by decide,by decide,fun κ h=>by simp [insL] at h⟩ (Below.refl _ _) (rfl)
set_option maxRecDepth 20000 in
set_option maxHeartbeats 2000000 in
theorem step8_17 {o:Oper}(E:F0 b1 b2 b5 b6 a0 w0)(ho:ops8[17]?=some o)(hi:listed[17]?=some false)(H:FI b1 b2 b5 b6 a0 w0 listed a w)(hdep:∀e∈o.after,Region.binds .any e=true→listed[e.on]?=some true):o.wp Tryz.prog a w (fun a' w'=>FI b1 b2 b5 b6 a0 w0 (listed.setIfInBounds 17 true) a' w') Q:=by
 have g5:=getD_of ((H.rest 5 (by decide) (by decide)).trans E.s5)
 have y:=(H.box E.h5).1
 have ho2:=ho
 have e:(ops8[17]?).get (by kernel_rfl)=o:=by simp [ho]
 conv at e=>lhs;whnf
 subst e
 unfold Oper.wp
 go_simp
 exact H.go ho2 rfl hi (by decide) ⟨by decide,by decide,by decide,fun κ h=>by simp [insL] at h⟩ (Below.refl _ _) (rfl)
set_option maxRecDepth 20000 in
set_option maxHeartbeats 2000000 in
theorem step8_18 {o:Oper}(E:F0 b1 b2 b5 b6 a0 w0)(ho:ops8[18]?=some o)(hi:listed[18]?=some false)(H:FI b1 b2 b5 b6 a0 w0 listed a w)(hdep:∀e∈o.after,Region.binds .any e=true→listed[e.on]?=some true):o.wp Tryz.prog a w (fun a' w'=>FI b1 b2 b5 b6 a0 w0 (listed.setIfInBounds 18 true) a' w') Q:=by
 obtain⟨v16,e16,h16⟩:=H.val 16 21 (by kernel_rfl) (dep_of ho hdep (by kernel_rfl))
 replace h16:v16=.func (.func 34) #[] #[]:=h16
 subst h16
 have g16:=getD_of e16
 obtain⟨v17,e17,h17⟩:=H.val 17 22 (by kernel_rfl) (dep_of ho hdep (by kernel_rfl))
 replace h17:v17=.func (.func 41) #[] #[]:=h17
 subst h17
 have g17:=getD_of e17
 have ho2:=ho
 have e:(ops8[18]?).get (by kernel_rfl)=o:=by simp [ho]
 conv at e=>lhs;whnf
 subst e
 unfold Oper.wp
 go_simp
 refine Calls.mono (mk1_any ⟨#[99,111,112,121]⟩ fm5 (by decide)) ?_
 rintro e w' ⟨v,rfl,hF,hb⟩
 exact H.go ho2 rfl hi (by decide) ⟨by decide,by decide,by decide,fun κ h=>by simp [insL] at h⟩ (hb) ((hF.more (by decide)).less (fun d h=>trivial))
set_option maxRecDepth 20000 in
set_option maxHeartbeats 2000000 in
theorem step8_19 {o:Oper}(E:F0 b1 b2 b5 b6 a0 w0)(ho:ops8[19]?=some o)(hi:listed[19]?=some false)(H:FI b1 b2 b5 b6 a0 w0 listed a w)(hdep:∀e∈o.after,Region.binds .any e=true→listed[e.on]?=some true):o.wp Tryz.prog a w (fun a' w'=>FI b1 b2 b5 b6 a0 w0 (listed.setIfInBounds 19 true) a' w') Q:=by
 have h0:=dep_of (k:=0) ho hdep (by kernel_rfl)
 obtain⟨b,f,n,h1,h2,h3,h4,h5,h6,h7⟩:=H.map h0
 obtain⟨v,ev,hv⟩:=H.val 18 23 (by kernel_rfl) (dep_of ho hdep (by kernel_rfl))
 replace hv:FormAt w v (formG 5) (formR 5) 2010:=hv
 have ho2:=ho
 have e:(ops8[19]?).get (by kernel_rfl)=o:=by simp [ho]
 conv at e=>lhs;whnf
 subst e
 refine wp_vmap_ins rfl (k:=44) (e:=93) lawOp Tryz.underlying57 h3 (by unfold maxLen;omega) (eval6 h1) (key:=.int .u8 5) rfl (eval6 ev) (keyO (by decide)) ?_
 intro w' hM hT
 exact H.ins (κ:=5) (by simp [insL]) ho2 rfl hi h0 h1 h2 h3 h4 h5 h6 h7 hv hM hT
set_option maxRecDepth 20000 in
set_option maxHeartbeats 2000000 in
theorem step8_20 {o:Oper}(E:F0 b1 b2 b5 b6 a0 w0)(ho:ops8[20]?=some o)(hi:listed[20]?=some false)(H:FI b1 b2 b5 b6 a0 w0 listed a w)(hdep:∀e∈o.after,Region.binds .any e=true→listed[e.on]?=some true):o.wp Tryz.prog a w (fun a' w'=>FI b1 b2 b5 b6 a0 w0 (listed.setIfInBounds 20 true) a' w') Q:=by
 have g1:=getD_of ((H.rest 1 (by decide) (by decide)).trans E.s1)
 have y:=(H.box E.h1).1
 have ho2:=ho
 have e:(ops8[20]?).get (by kernel_rfl)=o:=by simp [ho]
 conv at e=>lhs;whnf
 subst e
 unfold Oper.wp
 go_simp
 exact H.go ho2 rfl hi (by decide) ⟨by decide,by decide,by decide,fun κ h=>by simp [insL] at h⟩ (Below.refl _ _) (rfl)
set_option maxRecDepth 20000 in
set_option maxHeartbeats 2000000 in
theorem step8_21 {o:Oper}(E:F0 b1 b2 b5 b6 a0 w0)(ho:ops8[21]?=some o)(hi:listed[21]?=some false)(H:FI b1 b2 b5 b6 a0 w0 listed a w)(hdep:∀e∈o.after,Region.binds .any e=true→listed[e.on]?=some true):o.wp Tryz.prog a w (fun a' w'=>FI b1 b2 b5 b6 a0 w0 (listed.setIfInBounds 21 true) a' w') Q:=by
 obtain⟨v20,e20,h20⟩:=H.val 20 24 (by kernel_rfl) (dep_of ho hdep (by kernel_rfl))
 replace h20:v20=.func (.func 34) #[] #[]:=h20
 subst h20
 have g20:=getD_of e20
 have ho2:=ho
 have e:(ops8[21]?).get (by kernel_rfl)=o:=by simp [ho]
 conv at e=>lhs;whnf
 subst e
 unfold Oper.wp
 go_simp
 refine Calls.mono (mk1_any ⟨#[112,104,105]⟩ fm9 (by decide)) ?_
 rintro e w' ⟨v,rfl,hF,hb⟩
 exact H.go ho2 rfl hi (by decide) ⟨by decide,by decide,by decide,fun κ h=>by simp [insL] at h⟩ (hb) ((hF.more (by decide)).less (fun d h=>h rfl))
set_option maxRecDepth 20000 in
set_option maxHeartbeats 2000000 in
theorem step8_22 {o:Oper}(E:F0 b1 b2 b5 b6 a0 w0)(ho:ops8[22]?=some o)(hi:listed[22]?=some false)(H:FI b1 b2 b5 b6 a0 w0 listed a w)(hdep:∀e∈o.after,Region.binds .any e=true→listed[e.on]?=some true):o.wp Tryz.prog a w (fun a' w'=>FI b1 b2 b5 b6 a0 w0 (listed.setIfInBounds 22 true) a' w') Q:=by
 have h0:=dep_of (k:=0) ho hdep (by kernel_rfl)
 obtain⟨b,f,n,h1,h2,h3,h4,h5,h6,h7⟩:=H.map h0
 obtain⟨v,ev,hv⟩:=H.val 21 25 (by kernel_rfl) (dep_of ho hdep (by kernel_rfl))
 replace hv:FormAt w v (formG 6) (formR 6) 2010:=hv
 have ho2:=ho
 have e:(ops8[22]?).get (by kernel_rfl)=o:=by simp [ho]
 conv at e=>lhs;whnf
 subst e
 refine wp_vmap_ins rfl (k:=44) (e:=93) lawOp Tryz.underlying57 h3 (by unfold maxLen;omega) (eval6 h1) (key:=.int .u8 6) rfl (eval6 ev) (keyO (by decide)) ?_
 intro w' hM hT
 exact H.ins (κ:=6) (by simp [insL]) ho2 rfl hi h0 h1 h2 h3 h4 h5 h6 h7 hv hM hT
set_option maxRecDepth 20000 in
set_option maxHeartbeats 2000000 in
theorem step8_23 {o:Oper}(E:F0 b1 b2 b5 b6 a0 w0)(ho:ops8[23]?=some o)(hi:listed[23]?=some false)(H:FI b1 b2 b5 b6 a0 w0 listed a w)(hdep:∀e∈o.after,Region.binds .any e=true→listed[e.on]?=some true):o.wp Tryz.prog a w (fun a' w'=>FI b1 b2 b5 b6 a0 w0 (listed.setIfInBounds 23 true) a' w') Q:=by
 have g1:=getD_of ((H.rest 1 (by decide) (by decide)).trans E.s1)
 have y:=(H.box E.h1).1
 have ho2:=ho
 have e:(ops8[23]?).get (by kernel_rfl)=o:=by simp [ho]
 conv at e=>lhs;whnf
 subst e
 unfold Oper.wp
 go_simp
 exact H.go ho2 rfl hi (by decide) ⟨by decide,by decide,by decide,fun κ h=>by simp [insL] at h⟩ (Below.refl _ _) (rfl)
set_option maxRecDepth 20000 in
set_option maxHeartbeats 2000000 in
theorem step8_24 {o:Oper}(E:F0 b1 b2 b5 b6 a0 w0)(ho:ops8[24]?=some o)(hi:listed[24]?=some false)(H:FI b1 b2 b5 b6 a0 w0 listed a w)(hdep:∀e∈o.after,Region.binds .any e=true→listed[e.on]?=some true):o.wp Tryz.prog a w (fun a' w'=>FI b1 b2 b5 b6 a0 w0 (listed.setIfInBounds 24 true) a' w') Q:=by
 have g5:=getD_of ((H.rest 5 (by decide) (by decide)).trans E.s5)
 have g6:=getD_of ((H.rest 6 (by decide) (by decide)).trans E.s6)
 have ho2:=ho
 have e:(ops8[24]?).get (by kernel_rfl)=o:=by simp [ho]
 conv at e=>lhs;whnf
 subst e
 unfold Oper.wp
 go_simp
 exact H.go ho2 rfl hi (by decide) ⟨by decide,by decide,by decide,fun κ h=>by simp [insL] at h⟩ (Below.refl _ _) (rfl)
set_option maxRecDepth 20000 in
set_option maxHeartbeats 2000000 in
theorem step8_25 {o:Oper}(E:F0 b1 b2 b5 b6 a0 w0)(ho:ops8[25]?=some o)(hi:listed[25]?=some false)(H:FI b1 b2 b5 b6 a0 w0 listed a w)(hdep:∀e∈o.after,Region.binds .any e=true→listed[e.on]?=some true):o.wp Tryz.prog a w (fun a' w'=>FI b1 b2 b5 b6 a0 w0 (listed.setIfInBounds 25 true) a' w') Q:=by
 obtain⟨v23,e23,h23⟩:=H.val 23 26 (by kernel_rfl) (dep_of ho hdep (by kernel_rfl))
 replace h23:v23=.func (.func 34) #[] #[]:=h23
 subst h23
 have g23:=getD_of e23
 obtain⟨v24,e24,h24⟩:=H.val 24 27 (by kernel_rfl) (dep_of ho hdep (by kernel_rfl))
 replace h24:v24=.func (.func 49) #[] #[.pointer (some ⟨b5,0,none⟩),.pointer (some ⟨b6,0,none⟩)]:=h24
 subst h24
 have g24:=getD_of e24
 have ho2:=ho
 have e:(ops8[25]?).get (by kernel_rfl)=o:=by simp [ho]
 conv at e=>lhs;whnf
 subst e
 unfold Oper.wp
 go_simp
 refine Calls.mono (mk1_any ⟨#[102,105,101,108,100]⟩ (fm10 (H.box E.h5).2 (H.box E.h6).2) (by decide)) ?_
 rintro e w' ⟨v,rfl,hF,hb⟩
 exact H.go ho2 rfl hi (by decide) ⟨by decide,by decide,by decide,fun κ h=>by simp [insL] at h⟩ (hb) ((hF.more (by decide)).less (fun d h=>trivial))
set_option maxRecDepth 20000 in
set_option maxHeartbeats 2000000 in
theorem step8_26 {o:Oper}(E:F0 b1 b2 b5 b6 a0 w0)(ho:ops8[26]?=some o)(hi:listed[26]?=some false)(H:FI b1 b2 b5 b6 a0 w0 listed a w)(hdep:∀e∈o.after,Region.binds .any e=true→listed[e.on]?=some true):o.wp Tryz.prog a w (fun a' w'=>FI b1 b2 b5 b6 a0 w0 (listed.setIfInBounds 26 true) a' w') Q:=by
 have h0:=dep_of (k:=0) ho hdep (by kernel_rfl)
 obtain⟨b,f,n,h1,h2,h3,h4,h5,h6,h7⟩:=H.map h0
 obtain⟨v,ev,hv⟩:=H.val 25 28 (by kernel_rfl) (dep_of ho hdep (by kernel_rfl))
 replace hv:FormAt w v (formG 7) (formR 7) 2010:=hv
 have ho2:=ho
 have e:(ops8[26]?).get (by kernel_rfl)=o:=by simp [ho]
 conv at e=>lhs;whnf
 subst e
 refine wp_vmap_ins rfl (k:=44) (e:=93) lawOp Tryz.underlying57 h3 (by unfold maxLen;omega) (eval6 h1) (key:=.int .u8 7) rfl (eval6 ev) (keyO (by decide)) ?_
 intro w' hM hT
 exact H.ins (κ:=7) (by simp [insL]) ho2 rfl hi h0 h1 h2 h3 h4 h5 h6 h7 hv hM hT
set_option maxRecDepth 20000 in
set_option maxHeartbeats 2000000 in
theorem step8_27 {o:Oper}(E:F0 b1 b2 b5 b6 a0 w0)(ho:ops8[27]?=some o)(hi:listed[27]?=some false)(H:FI b1 b2 b5 b6 a0 w0 listed a w)(hdep:∀e∈o.after,Region.binds .any e=true→listed[e.on]?=some true):o.wp Tryz.prog a w (fun a' w'=>FI b1 b2 b5 b6 a0 w0 (listed.setIfInBounds 27 true) a' w') Q:=by
 have g1:=getD_of ((H.rest 1 (by decide) (by decide)).trans E.s1)
 have y:=(H.box E.h1).1
 have ho2:=ho
 have e:(ops8[27]?).get (by kernel_rfl)=o:=by simp [ho]
 conv at e=>lhs;whnf
 subst e
 unfold Oper.wp
 go_simp
 exact H.go ho2 rfl hi (by decide) ⟨by decide,by decide,by decide,fun κ h=>by simp [insL] at h⟩ (Below.refl _ _) (rfl)
set_option maxRecDepth 20000 in
set_option maxHeartbeats 2000000 in
theorem step8_28 {o:Oper}(E:F0 b1 b2 b5 b6 a0 w0)(ho:ops8[28]?=some o)(hi:listed[28]?=some false)(H:FI b1 b2 b5 b6 a0 w0 listed a w)(hdep:∀e∈o.after,Region.binds .any e=true→listed[e.on]?=some true):o.wp Tryz.prog a w (fun a' w'=>FI b1 b2 b5 b6 a0 w0 (listed.setIfInBounds 28 true) a' w') Q:=by
 have g5:=getD_of ((H.rest 5 (by decide) (by decide)).trans E.s5)
 have y:=(H.box E.h5).1
 have ho2:=ho
 have e:(ops8[28]?).get (by kernel_rfl)=o:=by simp [ho]
 conv at e=>lhs;whnf
 subst e
 unfold Oper.wp
 go_simp
 exact H.go ho2 rfl hi (by decide) ⟨by decide,by decide,by decide,fun κ h=>by simp [insL] at h⟩ (Below.refl _ _) (rfl)
set_option maxRecDepth 20000 in
set_option maxHeartbeats 2000000 in
theorem step8_29 {o:Oper}(E:F0 b1 b2 b5 b6 a0 w0)(ho:ops8[29]?=some o)(hi:listed[29]?=some false)(H:FI b1 b2 b5 b6 a0 w0 listed a w)(hdep:∀e∈o.after,Region.binds .any e=true→listed[e.on]?=some true):o.wp Tryz.prog a w (fun a' w'=>FI b1 b2 b5 b6 a0 w0 (listed.setIfInBounds 29 true) a' w') Q:=by
 obtain⟨v27,e27,h27⟩:=H.val 27 29 (by kernel_rfl) (dep_of ho hdep (by kernel_rfl))
 replace h27:v27=.func (.func 34) #[] #[]:=h27
 subst h27
 have g27:=getD_of e27
 obtain⟨v28,e28,h28⟩:=H.val 28 30 (by kernel_rfl) (dep_of ho hdep (by kernel_rfl))
 replace h28:v28=.func (.func 41) #[] #[]:=h28
 subst h28
 have g28:=getD_of e28
 have ho2:=ho
 have e:(ops8[29]?).get (by kernel_rfl)=o:=by simp [ho]
 conv at e=>lhs;whnf
 subst e
 unfold Oper.wp
 go_simp
 refine Calls.mono (mk1_any ⟨#[108,111,97,100]⟩ fm5 (by decide)) ?_
 rintro e w' ⟨v,rfl,hF,hb⟩
 exact H.go ho2 rfl hi (by decide) ⟨by decide,by decide,by decide,fun κ h=>by simp [insL] at h⟩ (hb) ((hF.more (by decide)).less (fun d h=>trivial))
set_option maxRecDepth 20000 in
set_option maxHeartbeats 2000000 in
theorem step8_30 {o:Oper}(E:F0 b1 b2 b5 b6 a0 w0)(ho:ops8[30]?=some o)(hi:listed[30]?=some false)(H:FI b1 b2 b5 b6 a0 w0 listed a w)(hdep:∀e∈o.after,Region.binds .any e=true→listed[e.on]?=some true):o.wp Tryz.prog a w (fun a' w'=>FI b1 b2 b5 b6 a0 w0 (listed.setIfInBounds 30 true) a' w') Q:=by
 have h0:=dep_of (k:=0) ho hdep (by kernel_rfl)
 obtain⟨b,f,n,h1,h2,h3,h4,h5,h6,h7⟩:=H.map h0
 obtain⟨v,ev,hv⟩:=H.val 29 31 (by kernel_rfl) (dep_of ho hdep (by kernel_rfl))
 replace hv:FormAt w v (formG 8) (formR 8) 2010:=hv
 have ho2:=ho
 have e:(ops8[30]?).get (by kernel_rfl)=o:=by simp [ho]
 conv at e=>lhs;whnf
 subst e
 refine wp_vmap_ins rfl (k:=44) (e:=93) lawOp Tryz.underlying57 h3 (by unfold maxLen;omega) (eval6 h1) (key:=.int .u8 8) rfl (eval6 ev) (keyO (by decide)) ?_
 intro w' hM hT
 exact H.ins (κ:=8) (by simp [insL]) ho2 rfl hi h0 h1 h2 h3 h4 h5 h6 h7 hv hM hT
set_option maxRecDepth 20000 in
set_option maxHeartbeats 2000000 in
theorem step8_31 {o:Oper}(E:F0 b1 b2 b5 b6 a0 w0)(ho:ops8[31]?=some o)(hi:listed[31]?=some false)(H:FI b1 b2 b5 b6 a0 w0 listed a w)(hdep:∀e∈o.after,Region.binds .any e=true→listed[e.on]?=some true):o.wp Tryz.prog a w (fun a' w'=>FI b1 b2 b5 b6 a0 w0 (listed.setIfInBounds 31 true) a' w') Q:=by
 have g2:=getD_of ((H.rest 2 (by decide) (by decide)).trans E.s2)
 have y:=(H.box E.h2).1
 have ho2:=ho
 have e:(ops8[31]?).get (by kernel_rfl)=o:=by simp [ho]
 conv at e=>lhs;whnf
 subst e
 unfold Oper.wp
 go_simp
 exact H.go ho2 rfl hi (by decide) ⟨by decide,by decide,by decide,fun κ h=>by simp [insL] at h⟩ (Below.refl _ _) (rfl)
set_option maxRecDepth 20000 in
set_option maxHeartbeats 2000000 in
theorem step8_32 {o:Oper}(E:F0 b1 b2 b5 b6 a0 w0)(ho:ops8[32]?=some o)(hi:listed[32]?=some false)(H:FI b1 b2 b5 b6 a0 w0 listed a w)(hdep:∀e∈o.after,Region.binds .any e=true→listed[e.on]?=some true):o.wp Tryz.prog a w (fun a' w'=>FI b1 b2 b5 b6 a0 w0 (listed.setIfInBounds 32 true) a' w') Q:=by
 obtain⟨v31,e31,h31⟩:=H.val 31 32 (by kernel_rfl) (dep_of ho hdep (by kernel_rfl))
 replace h31:v31=.func (.func 36) #[] #[]:=h31
 subst h31
 have g31:=getD_of e31
 have ho2:=ho
 have e:(ops8[32]?).get (by kernel_rfl)=o:=by simp [ho]
 conv at e=>lhs;whnf
 subst e
 unfold Oper.wp
 go_simp
 refine Calls.mono (mk2_any ⟨#[115,116,111,114,101]⟩ fm11 (by decide)) ?_
 rintro e w' ⟨v,rfl,hF,hb⟩
 exact H.go ho2 rfl hi (by decide) ⟨by decide,by decide,by decide,fun κ h=>by simp [insL] at h⟩ (hb) ((hF.more (by decide)).less (fun d h=>trivial))
set_option maxRecDepth 20000 in
set_option maxHeartbeats 2000000 in
theorem step8_33 {o:Oper}(E:F0 b1 b2 b5 b6 a0 w0)(ho:ops8[33]?=some o)(hi:listed[33]?=some false)(H:FI b1 b2 b5 b6 a0 w0 listed a w)(hdep:∀e∈o.after,Region.binds .any e=true→listed[e.on]?=some true):o.wp Tryz.prog a w (fun a' w'=>FI b1 b2 b5 b6 a0 w0 (listed.setIfInBounds 33 true) a' w') Q:=by
 have h0:=dep_of (k:=0) ho hdep (by kernel_rfl)
 obtain⟨b,f,n,h1,h2,h3,h4,h5,h6,h7⟩:=H.map h0
 obtain⟨v,ev,hv⟩:=H.val 32 33 (by kernel_rfl) (dep_of ho hdep (by kernel_rfl))
 replace hv:FormAt w v (formG 9) (formR 9) 2010:=hv
 have ho2:=ho
 have e:(ops8[33]?).get (by kernel_rfl)=o:=by simp [ho]
 conv at e=>lhs;whnf
 subst e
 refine wp_vmap_ins rfl (k:=44) (e:=93) lawOp Tryz.underlying57 h3 (by unfold maxLen;omega) (eval6 h1) (key:=.int .u8 9) rfl (eval6 ev) (keyO (by decide)) ?_
 intro w' hM hT
 exact H.ins (κ:=9) (by simp [insL]) ho2 rfl hi h0 h1 h2 h3 h4 h5 h6 h7 hv hM hT
set_option maxRecDepth 20000 in
set_option maxHeartbeats 2000000 in
theorem step8_34 {o:Oper}(E:F0 b1 b2 b5 b6 a0 w0)(ho:ops8[34]?=some o)(hi:listed[34]?=some false)(H:FI b1 b2 b5 b6 a0 w0 listed a w)(hdep:∀e∈o.after,Region.binds .any e=true→listed[e.on]?=some true):o.wp Tryz.prog a w (fun a' w'=>FI b1 b2 b5 b6 a0 w0 (listed.setIfInBounds 34 true) a' w') Q:=by
 have g3:=getD_of ((H.rest 3 (by decide) (by decide)).trans E.s3)
 have ho2:=ho
 have e:(ops8[34]?).get (by kernel_rfl)=o:=by simp [ho]
 conv at e=>lhs;whnf
 subst e
 unfold Oper.wp
 go_simp
 exact H.go ho2 rfl hi (by decide) ⟨by decide,by decide,by decide,fun κ h=>by simp [insL] at h⟩ (Below.refl _ _) (rfl)
set_option maxRecDepth 20000 in
set_option maxHeartbeats 2000000 in
theorem step8_35 {o:Oper}(E:F0 b1 b2 b5 b6 a0 w0)(ho:ops8[35]?=some o)(hi:listed[35]?=some false)(H:FI b1 b2 b5 b6 a0 w0 listed a w)(hdep:∀e∈o.after,Region.binds .any e=true→listed[e.on]?=some true):o.wp Tryz.prog a w (fun a' w'=>FI b1 b2 b5 b6 a0 w0 (listed.setIfInBounds 35 true) a' w') Q:=by
 obtain⟨v34,e34,h34⟩:=H.val 34 34 (by kernel_rfl) (dep_of ho hdep (by kernel_rfl))
 replace h34:v34=.func (.func 38) #[] #[.pointer (some ⟨b2,0,none⟩),.pointer (some ⟨b1,0,none⟩)]:=h34
 subst h34
 have g34:=getD_of e34
 have ho2:=ho
 have e:(ops8[35]?).get (by kernel_rfl)=o:=by simp [ho]
 conv at e=>lhs;whnf
 subst e
 unfold Oper.wp
 go_simp
 refine Calls.mono (mk3_any ⟨#[99,97,108,108]⟩ fm12 (by decide) (H.box E.h2).2 (H.box E.h1).2) ?_
 rintro e w' ⟨v,rfl,hF,hb⟩
 exact H.go ho2 rfl hi (by decide) ⟨by decide,by decide,by decide,fun κ h=>by simp [insL] at h⟩ (hb) ((hF.more (by decide)).less (fun d h=>trivial))
set_option maxRecDepth 20000 in
set_option maxHeartbeats 2000000 in
theorem step8_36 {o:Oper}(E:F0 b1 b2 b5 b6 a0 w0)(ho:ops8[36]?=some o)(hi:listed[36]?=some false)(H:FI b1 b2 b5 b6 a0 w0 listed a w)(hdep:∀e∈o.after,Region.binds .any e=true→listed[e.on]?=some true):o.wp Tryz.prog a w (fun a' w'=>FI b1 b2 b5 b6 a0 w0 (listed.setIfInBounds 36 true) a' w') Q:=by
 have h0:=dep_of (k:=0) ho hdep (by kernel_rfl)
 obtain⟨b,f,n,h1,h2,h3,h4,h5,h6,h7⟩:=H.map h0
 obtain⟨v,ev,hv⟩:=H.val 35 35 (by kernel_rfl) (dep_of ho hdep (by kernel_rfl))
 replace hv:FormAt w v (formG 10) (formR 10) 2010:=hv
 have ho2:=ho
 have e:(ops8[36]?).get (by kernel_rfl)=o:=by simp [ho]
 conv at e=>lhs;whnf
 subst e
 refine wp_vmap_ins rfl (k:=44) (e:=93) lawOp Tryz.underlying57 h3 (by unfold maxLen;omega) (eval6 h1) (key:=.int .u8 10) rfl (eval6 ev) (keyO (by decide)) ?_
 intro w' hM hT
 exact H.ins (κ:=10) (by simp [insL]) ho2 rfl hi h0 h1 h2 h3 h4 h5 h6 h7 hv hM hT
set_option maxRecDepth 20000 in
set_option maxHeartbeats 2000000 in
theorem step8_37 {o:Oper}(E:F0 b1 b2 b5 b6 a0 w0)(ho:ops8[37]?=some o)(hi:listed[37]?=some false)(H:FI b1 b2 b5 b6 a0 w0 listed a w)(hdep:∀e∈o.after,Region.binds .any e=true→listed[e.on]?=some true):o.wp Tryz.prog a w (fun a' w'=>FI b1 b2 b5 b6 a0 w0 (listed.setIfInBounds 37 true) a' w') Q:=by
 have g3:=getD_of ((H.rest 3 (by decide) (by decide)).trans E.s3)
 have ho2:=ho
 have e:(ops8[37]?).get (by kernel_rfl)=o:=by simp [ho]
 conv at e=>lhs;whnf
 subst e
 unfold Oper.wp
 go_simp
 exact H.go ho2 rfl hi (by decide) ⟨by decide,by decide,by decide,fun κ h=>by simp [insL] at h⟩ (Below.refl _ _) (rfl)
set_option maxRecDepth 20000 in
set_option maxHeartbeats 2000000 in
theorem step8_38 {o:Oper}(E:F0 b1 b2 b5 b6 a0 w0)(ho:ops8[38]?=some o)(hi:listed[38]?=some false)(H:FI b1 b2 b5 b6 a0 w0 listed a w)(hdep:∀e∈o.after,Region.binds .any e=true→listed[e.on]?=some true):o.wp Tryz.prog a w (fun a' w'=>FI b1 b2 b5 b6 a0 w0 (listed.setIfInBounds 38 true) a' w') Q:=by
 obtain⟨v37,e37,h37⟩:=H.val 37 36 (by kernel_rfl) (dep_of ho hdep (by kernel_rfl))
 replace h37:v37=.func (.func 38) #[] #[.pointer (some ⟨b2,0,none⟩),.pointer (some ⟨b1,0,none⟩)]:=h37
 subst h37
 have g37:=getD_of e37
 have ho2:=ho
 have e:(ops8[38]?).get (by kernel_rfl)=o:=by simp [ho]
 conv at e=>lhs;whnf
 subst e
 unfold Oper.wp
 go_simp
 refine Calls.mono (mk3_any ⟨#[105,99,97,108,108]⟩ fm13 (by decide) (H.box E.h2).2 (H.box E.h1).2) ?_
 rintro e w' ⟨v,rfl,hF,hb⟩
 exact H.go ho2 rfl hi (by decide) ⟨by decide,by decide,by decide,fun κ h=>by simp [insL] at h⟩ (hb) ((hF.more (by decide)).less (fun d h=>trivial))
set_option maxRecDepth 20000 in
set_option maxHeartbeats 2000000 in
theorem step8_39 {o:Oper}(E:F0 b1 b2 b5 b6 a0 w0)(ho:ops8[39]?=some o)(hi:listed[39]?=some false)(H:FI b1 b2 b5 b6 a0 w0 listed a w)(hdep:∀e∈o.after,Region.binds .any e=true→listed[e.on]?=some true):o.wp Tryz.prog a w (fun a' w'=>FI b1 b2 b5 b6 a0 w0 (listed.setIfInBounds 39 true) a' w') Q:=by
 have h0:=dep_of (k:=0) ho hdep (by kernel_rfl)
 obtain⟨b,f,n,h1,h2,h3,h4,h5,h6,h7⟩:=H.map h0
 obtain⟨v,ev,hv⟩:=H.val 38 37 (by kernel_rfl) (dep_of ho hdep (by kernel_rfl))
 replace hv:FormAt w v (formG 11) (formR 11) 2010:=hv
 have ho2:=ho
 have e:(ops8[39]?).get (by kernel_rfl)=o:=by simp [ho]
 conv at e=>lhs;whnf
 subst e
 refine wp_vmap_ins rfl (k:=44) (e:=93) lawOp Tryz.underlying57 h3 (by unfold maxLen;omega) (eval6 h1) (key:=.int .u8 11) rfl (eval6 ev) (keyO (by decide)) ?_
 intro w' hM hT
 exact H.ins (κ:=11) (by simp [insL]) ho2 rfl hi h0 h1 h2 h3 h4 h5 h6 h7 hv hM hT
set_option maxRecDepth 20000 in
set_option maxHeartbeats 2000000 in
theorem step8_40 {o:Oper}(E:F0 b1 b2 b5 b6 a0 w0)(ho:ops8[40]?=some o)(hi:listed[40]?=some false)(H:FI b1 b2 b5 b6 a0 w0 listed a w)(hdep:∀e∈o.after,Region.binds .any e=true→listed[e.on]?=some true):o.wp Tryz.prog a w (fun a' w'=>FI b1 b2 b5 b6 a0 w0 (listed.setIfInBounds 40 true) a' w') Q:=by
 have g2:=getD_of ((H.rest 2 (by decide) (by decide)).trans E.s2)
 have y:=(H.box E.h2).1
 have ho2:=ho
 have e:(ops8[40]?).get (by kernel_rfl)=o:=by simp [ho]
 conv at e=>lhs;whnf
 subst e
 unfold Oper.wp
 go_simp
 exact H.go ho2 rfl hi (by decide) ⟨by decide,by decide,by decide,fun κ h=>by simp [insL] at h⟩ (Below.refl _ _) (rfl)
set_option maxRecDepth 20000 in
set_option maxHeartbeats 2000000 in
theorem step8_41 {o:Oper}(E:F0 b1 b2 b5 b6 a0 w0)(ho:ops8[41]?=some o)(hi:listed[41]?=some false)(H:FI b1 b2 b5 b6 a0 w0 listed a w)(hdep:∀e∈o.after,Region.binds .any e=true→listed[e.on]?=some true):o.wp Tryz.prog a w (fun a' w'=>FI b1 b2 b5 b6 a0 w0 (listed.setIfInBounds 41 true) a' w') Q:=by
 have g7:=getD_of ((H.rest 7 (by decide) (by decide)).trans E.s7)
 have ho2:=ho
 have e:(ops8[41]?).get (by kernel_rfl)=o:=by simp [ho]
 conv at e=>lhs;whnf
 subst e
 unfold Oper.wp
 go_simp
 exact H.go ho2 rfl hi (by decide) ⟨by decide,by decide,by decide,fun κ h=>by simp [insL] at h⟩ (Below.refl _ _) (rfl)
set_option maxRecDepth 20000 in
set_option maxHeartbeats 2000000 in
theorem step8_42 {o:Oper}(E:F0 b1 b2 b5 b6 a0 w0)(ho:ops8[42]?=some o)(hi:listed[42]?=some false)(H:FI b1 b2 b5 b6 a0 w0 listed a w)(hdep:∀e∈o.after,Region.binds .any e=true→listed[e.on]?=some true):o.wp Tryz.prog a w (fun a' w'=>FI b1 b2 b5 b6 a0 w0 (listed.setIfInBounds 42 true) a' w') Q:=by
 obtain⟨v40,e40,h40⟩:=H.val 40 38 (by kernel_rfl) (dep_of ho hdep (by kernel_rfl))
 replace h40:v40=.func (.func 36) #[] #[]:=h40
 subst h40
 have g40:=getD_of e40
 obtain⟨v41,e41,h41⟩:=H.val 41 39 (by kernel_rfl) (dep_of ho hdep (by kernel_rfl))
 replace h41:v41=.func (.func 44) #[] #[]:=h41
 subst h41
 have g41:=getD_of e41
 have ho2:=ho
 have e:(ops8[42]?).get (by kernel_rfl)=o:=by simp [ho]
 conv at e=>lhs;whnf
 subst e
 unfold Oper.wp
 go_simp
 refine Calls.mono (mk2_any ⟨#[98,114]⟩ fm7 (by decide)) ?_
 rintro e w' ⟨v,rfl,hF,hb⟩
 exact H.go ho2 rfl hi (by decide) ⟨by decide,by decide,by decide,fun κ h=>by simp [insL] at h⟩ (hb) ((hF.more (by decide)).less (fun d h=>trivial))
set_option maxRecDepth 20000 in
set_option maxHeartbeats 2000000 in
theorem step8_43 {o:Oper}(E:F0 b1 b2 b5 b6 a0 w0)(ho:ops8[43]?=some o)(hi:listed[43]?=some false)(H:FI b1 b2 b5 b6 a0 w0 listed a w)(hdep:∀e∈o.after,Region.binds .any e=true→listed[e.on]?=some true):o.wp Tryz.prog a w (fun a' w'=>FI b1 b2 b5 b6 a0 w0 (listed.setIfInBounds 43 true) a' w') Q:=by
 have h0:=dep_of (k:=0) ho hdep (by kernel_rfl)
 obtain⟨b,f,n,h1,h2,h3,h4,h5,h6,h7⟩:=H.map h0
 obtain⟨v,ev,hv⟩:=H.val 42 40 (by kernel_rfl) (dep_of ho hdep (by kernel_rfl))
 replace hv:FormAt w v (formG 12) (formR 12) 2010:=hv
 have ho2:=ho
 have e:(ops8[43]?).get (by kernel_rfl)=o:=by simp [ho]
 conv at e=>lhs;whnf
 subst e
 refine wp_vmap_ins rfl (k:=44) (e:=93) lawOp Tryz.underlying57 h3 (by unfold maxLen;omega) (eval6 h1) (key:=.int .u8 12) rfl (eval6 ev) (keyO (by decide)) ?_
 intro w' hM hT
 exact H.ins (κ:=12) (by simp [insL]) ho2 rfl hi h0 h1 h2 h3 h4 h5 h6 h7 hv hM hT
set_option maxRecDepth 20000 in
set_option maxHeartbeats 2000000 in
theorem step8_44 {o:Oper}(E:F0 b1 b2 b5 b6 a0 w0)(ho:ops8[44]?=some o)(hi:listed[44]?=some false)(H:FI b1 b2 b5 b6 a0 w0 listed a w)(hdep:∀e∈o.after,Region.binds .any e=true→listed[e.on]?=some true):o.wp Tryz.prog a w (fun a' w'=>FI b1 b2 b5 b6 a0 w0 (listed.setIfInBounds 44 true) a' w') Q:=by
 have g2:=getD_of ((H.rest 2 (by decide) (by decide)).trans E.s2)
 have y:=(H.box E.h2).1
 have ho2:=ho
 have e:(ops8[44]?).get (by kernel_rfl)=o:=by simp [ho]
 conv at e=>lhs;whnf
 subst e
 unfold Oper.wp
 go_simp
 exact H.go ho2 rfl hi (by decide) ⟨by decide,by decide,by decide,fun κ h=>by simp [insL] at h⟩ (Below.refl _ _) (rfl)
set_option maxRecDepth 20000 in
set_option maxHeartbeats 2000000 in
theorem step8_45 {o:Oper}(E:F0 b1 b2 b5 b6 a0 w0)(ho:ops8[45]?=some o)(hi:listed[45]?=some false)(H:FI b1 b2 b5 b6 a0 w0 listed a w)(hdep:∀e∈o.after,Region.binds .any e=true→listed[e.on]?=some true):o.wp Tryz.prog a w (fun a' w'=>FI b1 b2 b5 b6 a0 w0 (listed.setIfInBounds 45 true) a' w') Q:=by
 have g7:=getD_of ((H.rest 7 (by decide) (by decide)).trans E.s7)
 have ho2:=ho
 have e:(ops8[45]?).get (by kernel_rfl)=o:=by simp [ho]
 conv at e=>lhs;whnf
 subst e
 unfold Oper.wp
 go_simp
 exact H.go ho2 rfl hi (by decide) ⟨by decide,by decide,by decide,fun κ h=>by simp [insL] at h⟩ (Below.refl _ _) (rfl)
set_option maxRecDepth 20000 in
set_option maxHeartbeats 2000000 in
theorem step8_46 {o:Oper}(E:F0 b1 b2 b5 b6 a0 w0)(ho:ops8[46]?=some o)(hi:listed[46]?=some false)(H:FI b1 b2 b5 b6 a0 w0 listed a w)(hdep:∀e∈o.after,Region.binds .any e=true→listed[e.on]?=some true):o.wp Tryz.prog a w (fun a' w'=>FI b1 b2 b5 b6 a0 w0 (listed.setIfInBounds 46 true) a' w') Q:=by
 obtain⟨v44,e44,h44⟩:=H.val 44 41 (by kernel_rfl) (dep_of ho hdep (by kernel_rfl))
 replace h44:v44=.func (.func 36) #[] #[]:=h44
 subst h44
 have g44:=getD_of e44
 obtain⟨v45,e45,h45⟩:=H.val 45 42 (by kernel_rfl) (dep_of ho hdep (by kernel_rfl))
 replace h45:v45=.func (.func 44) #[] #[]:=h45
 subst h45
 have g45:=getD_of e45
 have ho2:=ho
 have e:(ops8[46]?).get (by kernel_rfl)=o:=by simp [ho]
 conv at e=>lhs;whnf
 subst e
 unfold Oper.wp
 go_simp
 refine Calls.mono (mk2_any ⟨#[103,111,116,111]⟩ fm7 (by decide)) ?_
 rintro e w' ⟨v,rfl,hF,hb⟩
 exact H.go ho2 rfl hi (by decide) ⟨by decide,by decide,by decide,fun κ h=>by simp [insL] at h⟩ (hb) ((hF.more (by decide)).less (fun d h=>trivial))
set_option maxRecDepth 20000 in
set_option maxHeartbeats 2000000 in
theorem step8_47 {o:Oper}(E:F0 b1 b2 b5 b6 a0 w0)(ho:ops8[47]?=some o)(hi:listed[47]?=some false)(H:FI b1 b2 b5 b6 a0 w0 listed a w)(hdep:∀e∈o.after,Region.binds .any e=true→listed[e.on]?=some true):o.wp Tryz.prog a w (fun a' w'=>FI b1 b2 b5 b6 a0 w0 (listed.setIfInBounds 47 true) a' w') Q:=by
 have h0:=dep_of (k:=0) ho hdep (by kernel_rfl)
 obtain⟨b,f,n,h1,h2,h3,h4,h5,h6,h7⟩:=H.map h0
 obtain⟨v,ev,hv⟩:=H.val 46 43 (by kernel_rfl) (dep_of ho hdep (by kernel_rfl))
 replace hv:FormAt w v (formG 13) (formR 13) 2010:=hv
 have ho2:=ho
 have e:(ops8[47]?).get (by kernel_rfl)=o:=by simp [ho]
 conv at e=>lhs;whnf
 subst e
 refine wp_vmap_ins rfl (k:=44) (e:=93) lawOp Tryz.underlying57 h3 (by unfold maxLen;omega) (eval6 h1) (key:=.int .u8 13) rfl (eval6 ev) (keyO (by decide)) ?_
 intro w' hM hT
 exact H.ins (κ:=13) (by simp [insL]) ho2 rfl hi h0 h1 h2 h3 h4 h5 h6 h7 hv hM hT
set_option maxRecDepth 20000 in
set_option maxHeartbeats 2000000 in
theorem step8_48 {o:Oper}(E:F0 b1 b2 b5 b6 a0 w0)(ho:ops8[48]?=some o)(hi:listed[48]?=some false)(H:FI b1 b2 b5 b6 a0 w0 listed a w)(hdep:∀e∈o.after,Region.binds .any e=true→listed[e.on]?=some true):o.wp Tryz.prog a w (fun a' w'=>FI b1 b2 b5 b6 a0 w0 (listed.setIfInBounds 48 true) a' w') Q:=by
 have g2:=getD_of ((H.rest 2 (by decide) (by decide)).trans E.s2)
 have y:=(H.box E.h2).1
 have ho2:=ho
 have e:(ops8[48]?).get (by kernel_rfl)=o:=by simp [ho]
 conv at e=>lhs;whnf
 subst e
 unfold Oper.wp
 go_simp
 exact H.go ho2 rfl hi (by decide) ⟨by decide,by decide,by decide,fun κ h=>by simp [insL] at h⟩ (Below.refl _ _) (rfl)
set_option maxRecDepth 20000 in
set_option maxHeartbeats 2000000 in
theorem step8_49 {o:Oper}(E:F0 b1 b2 b5 b6 a0 w0)(ho:ops8[49]?=some o)(hi:listed[49]?=some false)(H:FI b1 b2 b5 b6 a0 w0 listed a w)(hdep:∀e∈o.after,Region.binds .any e=true→listed[e.on]?=some true):o.wp Tryz.prog a w (fun a' w'=>FI b1 b2 b5 b6 a0 w0 (listed.setIfInBounds 49 true) a' w') Q:=by
 have g5:=getD_of ((H.rest 5 (by decide) (by decide)).trans E.s5)
 have ho2:=ho
 have e:(ops8[49]?).get (by kernel_rfl)=o:=by simp [ho]
 conv at e=>lhs;whnf
 subst e
 unfold Oper.wp
 go_simp
 exact H.go ho2 rfl hi (by decide) ⟨by decide,by decide,by decide,fun κ h=>by simp [insL] at h⟩ (Below.refl _ _) (rfl)
set_option maxRecDepth 20000 in
set_option maxHeartbeats 2000000 in
theorem step8_50 {o:Oper}(E:F0 b1 b2 b5 b6 a0 w0)(ho:ops8[50]?=some o)(hi:listed[50]?=some false)(H:FI b1 b2 b5 b6 a0 w0 listed a w)(hdep:∀e∈o.after,Region.binds .any e=true→listed[e.on]?=some true):o.wp Tryz.prog a w (fun a' w'=>FI b1 b2 b5 b6 a0 w0 (listed.setIfInBounds 50 true) a' w') Q:=by
 obtain⟨v48,e48,h48⟩:=H.val 48 44 (by kernel_rfl) (dep_of ho hdep (by kernel_rfl))
 replace h48:v48=.func (.func 36) #[] #[]:=h48
 subst h48
 have g48:=getD_of e48
 obtain⟨v49,e49,h49⟩:=H.val 49 45 (by kernel_rfl) (dep_of ho hdep (by kernel_rfl))
 replace h49:v49=.func (.func 53) #[] #[.pointer (some ⟨b5,0,none⟩)]:=h49
 subst h49
 have g49:=getD_of e49
 have ho2:=ho
 have e:(ops8[50]?).get (by kernel_rfl)=o:=by simp [ho]
 conv at e=>lhs;whnf
 subst e
 unfold Oper.wp
 go_simp
 refine Calls.mono (mk2_any ⟨#[114,101,116]⟩ (fm14 (H.box E.h5).2) (by decide)) ?_
 rintro e w' ⟨v,rfl,hF,hb⟩
 exact H.go ho2 rfl hi (by decide) ⟨by decide,by decide,by decide,fun κ h=>by simp [insL] at h⟩ (hb) ((hF.more (by decide)).less (fun d h=>trivial))
set_option maxRecDepth 20000 in
set_option maxHeartbeats 2000000 in
theorem step8_51 {o:Oper}(E:F0 b1 b2 b5 b6 a0 w0)(ho:ops8[51]?=some o)(hi:listed[51]?=some false)(H:FI b1 b2 b5 b6 a0 w0 listed a w)(hdep:∀e∈o.after,Region.binds .any e=true→listed[e.on]?=some true):o.wp Tryz.prog a w (fun a' w'=>FI b1 b2 b5 b6 a0 w0 (listed.setIfInBounds 51 true) a' w') Q:=by
 have h0:=dep_of (k:=0) ho hdep (by kernel_rfl)
 obtain⟨b,f,n,h1,h2,h3,h4,h5,h6,h7⟩:=H.map h0
 obtain⟨v,ev,hv⟩:=H.val 50 46 (by kernel_rfl) (dep_of ho hdep (by kernel_rfl))
 replace hv:FormAt w v (formG 14) (formR 14) 2010:=hv
 have ho2:=ho
 have e:(ops8[51]?).get (by kernel_rfl)=o:=by simp [ho]
 conv at e=>lhs;whnf
 subst e
 refine wp_vmap_ins rfl (k:=44) (e:=93) lawOp Tryz.underlying57 h3 (by unfold maxLen;omega) (eval6 h1) (key:=.int .u8 14) rfl (eval6 ev) (keyO (by decide)) ?_
 intro w' hM hT
 exact H.ins (κ:=14) (by simp [insL]) ho2 rfl hi h0 h1 h2 h3 h4 h5 h6 h7 hv hM hT
set_option maxRecDepth 20000 in
set_option maxHeartbeats 2000000 in
theorem step8_52 {o:Oper}(E:F0 b1 b2 b5 b6 a0 w0)(ho:ops8[52]?=some o)(hi:listed[52]?=some false)(H:FI b1 b2 b5 b6 a0 w0 listed a w)(hdep:∀e∈o.after,Region.binds .any e=true→listed[e.on]?=some true):o.wp Tryz.prog a w (fun a' w'=>FI b1 b2 b5 b6 a0 w0 (listed.setIfInBounds 52 true) a' w') Q:=by
 have h0:=dep_of (k:=0) ho hdep (by kernel_rfl)
 obtain⟨b,f,n,h1,h2,h3,h4,h5,h6,h7⟩:=H.map h0
 have g:=getD_of h1
 have ho2:=ho
 have e:(ops8[52]?).get (by kernel_rfl)=o:=by simp [ho]
 conv at e=>lhs;whnf
 subst e
 unfold Oper.wp
 go_simp
 exact H.last ho2 rfl hi (.inl ⟨rfl,rfl⟩) h0 h1
set_option maxRecDepth 20000 in
set_option maxHeartbeats 2000000 in
theorem step8_53 {o:Oper}(E:F0 b1 b2 b5 b6 a0 w0)(ho:ops8[53]?=some o)(hi:listed[53]?=some false)(H:FI b1 b2 b5 b6 a0 w0 listed a w)(hdep:∀e∈o.after,Region.binds .any e=true→listed[e.on]?=some true):o.wp Tryz.prog a w (fun a' w'=>FI b1 b2 b5 b6 a0 w0 (listed.setIfInBounds 53 true) a' w') Q:=by
 have h52:=dep_of (k:=52) ho hdep (by kernel_rfl)
 have h0:=H.ord.2.1 h52
 obtain⟨b,f,n,h1,h2,h3,h4,h5,h6,h7⟩:=H.map h0
 have g:=getD_of (h6 h52)
 have ho2:=ho
 have e:(ops8[53]?).get (by kernel_rfl)=o:=by simp [ho]
 conv at e=>lhs;whnf
 subst e
 unfold Oper.wp
 go_simp
 exact H.last ho2 rfl hi (.inr ⟨rfl,rfl⟩) h0 h1
end
end
section
open Go.RowKit Go.Maps Go.Shelf Go.WideMaps
theorem low8:lowB ops8=true:=by kernel_rfl
theorem step8_all {a0:Act}{w0:World}{listed:Array Bool}{a:Act}{w:World}{Q:Exit→Act→World→Prop}{b1 b2 b5 b6:Nat}{i:Nat}{o:Oper}(E:F0 b1 b2 b5 b6 a0 w0)(hlt:i<54)(ho:ops8[i]?=some o)(hi:listed[i]?=some false)(H:FI b1 b2 b5 b6 a0 w0 listed a w)(hdep:∀e∈o.after,Region.binds .any e=true→listed[e.on]?=some true):o.wp Tryz.prog a w (fun a' w'=>FI b1 b2 b5 b6 a0 w0 (listed.setIfInBounds i true) a' w') Q:=by
 match i,hlt with
 | 0,_=>exact step8_0 E ho hi H hdep
 | 1,_=>exact step8_1 E ho hi H hdep
 | 2,_=>exact step8_2 E ho hi H hdep
 | 3,_=>exact step8_3 E ho hi H hdep
 | 4,_=>exact step8_4 E ho hi H hdep
 | 5,_=>exact step8_5 E ho hi H hdep
 | 6,_=>exact step8_6 E ho hi H hdep
 | 7,_=>exact step8_7 E ho hi H hdep
 | 8,_=>exact step8_8 E ho hi H hdep
 | 9,_=>exact step8_9 E ho hi H hdep
 | 10,_=>exact step8_10 E ho hi H hdep
 | 11,_=>exact step8_11 E ho hi H hdep
 | 12,_=>exact step8_12 E ho hi H hdep
 | 13,_=>exact step8_13 E ho hi H hdep
 | 14,_=>exact step8_14 E ho hi H hdep
 | 15,_=>exact step8_15 E ho hi H hdep
 | 16,_=>exact step8_16 E ho hi H hdep
 | 17,_=>exact step8_17 E ho hi H hdep
 | 18,_=>exact step8_18 E ho hi H hdep
 | 19,_=>exact step8_19 E ho hi H hdep
 | 20,_=>exact step8_20 E ho hi H hdep
 | 21,_=>exact step8_21 E ho hi H hdep
 | 22,_=>exact step8_22 E ho hi H hdep
 | 23,_=>exact step8_23 E ho hi H hdep
 | 24,_=>exact step8_24 E ho hi H hdep
 | 25,_=>exact step8_25 E ho hi H hdep
 | 26,_=>exact step8_26 E ho hi H hdep
 | 27,_=>exact step8_27 E ho hi H hdep
 | 28,_=>exact step8_28 E ho hi H hdep
 | 29,_=>exact step8_29 E ho hi H hdep
 | 30,_=>exact step8_30 E ho hi H hdep
 | 31,_=>exact step8_31 E ho hi H hdep
 | 32,_=>exact step8_32 E ho hi H hdep
 | 33,_=>exact step8_33 E ho hi H hdep
 | 34,_=>exact step8_34 E ho hi H hdep
 | 35,_=>exact step8_35 E ho hi H hdep
 | 36,_=>exact step8_36 E ho hi H hdep
 | 37,_=>exact step8_37 E ho hi H hdep
 | 38,_=>exact step8_38 E ho hi H hdep
 | 39,_=>exact step8_39 E ho hi H hdep
 | 40,_=>exact step8_40 E ho hi H hdep
 | 41,_=>exact step8_41 E ho hi H hdep
 | 42,_=>exact step8_42 E ho hi H hdep
 | 43,_=>exact step8_43 E ho hi H hdep
 | 44,_=>exact step8_44 E ho hi H hdep
 | 45,_=>exact step8_45 E ho hi H hdep
 | 46,_=>exact step8_46 E ho hi H hdep
 | 47,_=>exact step8_47 E ho hi H hdep
 | 48,_=>exact step8_48 E ho hi H hdep
 | 49,_=>exact step8_49 E ho hi H hdep
 | 50,_=>exact step8_50 E ho hi H hdep
 | 51,_=>exact step8_51 E ho hi H hdep
 | 52,_=>exact step8_52 E ho hi H hdep
 | 53,_=>exact step8_53 E ho hi H hdep
 | i+54,h=>omega
theorem FI.all {a0:Act}{w0:World}{listed:Array Bool}{a:Act}{w:World}{b1 b2 b5 b6:Nat}(H:FI b1 b2 b5 b6 a0 w0 listed a w)(hr:Region.ready .any ops8 listed=[]):∀i,i<54→listed[i]?=some true:=by
 have no:∀{i:Nat},i ∉ Region.ready .any ops8 listed:=fun {i} h=>by rw [hr] at h;cases h
 intro i
 induction i using Nat.strongRecOn with
 | ind i ih=>
  intro hi
  apply Classical.byContradiction
  intro hn
  exact no (ready_at (by rw [ops8_size];exact H.size) low8 (by rw [ops8_size];omega) hn (fun k hk _=>ih k hk (by omega)))
theorem region8_any {ops:Array Oper}(hops:ops8=ops){Q:Exit→Act→World→Prop}{a0:Act}{w0:World}{b1 b2 b5 b6:Nat}(E:F0 b1 b2 b5 b6 a0 w0)(hsz:a0.tmps.size=48)
  (hend:∀(A:Array Value) (w:World) (b:Nat) (f:Lit→Option Value),A[0]?=some (.map (some b))→Below w0.heap.size w0 w→w0.heap.size≤b→VMap w 44 b 54 f→(∀κ,1≤κ→κ≤14→∃v,f (.int .u8 (κ:Nat))=some v∧FormAt w v (formG κ) (formR κ) 2010)→Q .normal {tmps:=A,defers:=a0.defers} w):
  (Code.region 8 ops true).wp Tryz.prog Q a0 w0:=by
 subst hops
 refine wp_region_any (by kernel_rfl) ?_
 have E':F0 b1 b2 b5 b6 a0 w0.drew:=⟨E.s1,E.s2,E.s3,E.s4,E.s5,E.s6,E.s7,E.h1,E.h2,E.h5,E.h6⟩
 refine wpAny_inv (Inv:=FI b1 b2 b5 b6 a0 w0.drew) (fun listed a w i o H ho hi hdep=>wpOp_of ho (lowB_at low8 ho).1 (step8_all E' (by have:=(Array.getElem?_eq_some_iff.1 ho).1;rw [ops8_size] at this;exact this) ho hi H hdep)) (fun listed a w H=>by rw [ops8_size];exact H.size) ?_ _ _ _ _ ⟨by rw [Array.size_replicate,ops8_size],rfl,hsz,Below.refl _ _,fun _ _ _=>rfl,fun k o d hk hl=>?_,?_,fun hl=>?_⟩ ?_
 ·intro listed a w H hr
  have hall:=H.all hr
  obtain⟨b,f,n,h1,h2,h3,h4,h5,h6,h7⟩:=H.map (hall 0 (by decide))
  have hd:=H.defers
  obtain⟨A,df⟩:=a
  simp only at hd h7
  subst hd
  refine hend A w b f (h7 (hall 53 (by decide))) ⟨H.low.os,H.low.tape,H.low.output,H.low.size,H.low.block⟩ h2 (h3.more (by omega)) (fun κ k1 k2=>?_)
  have:∃i,(κ,i)∈insL∧i<54:=by
   rcases (by omega:κ=1∨κ=2∨κ=3∨κ=4∨κ=5∨κ=6∨κ=7∨κ=8∨κ=9∨κ=10∨κ=11∨κ=12∨κ=13∨κ=14) with rfl | rfl | rfl | rfl | rfl | rfl | rfl | rfl | rfl | rfl | rfl | rfl | rfl | rfl<;>simp [insL]
  obtain⟨i,hi,hi2⟩:=this
  exact h5 κ i hi (hall i hi2)
 ·rw [Array.getElem?_replicate] at hl
  split at hl<;>cases hl
 ·have no:∀i:Nat,(Array.replicate ops8.size false)[i]?≠some true:=fun i h=>by
   rw [Array.getElem?_replicate] at h
   split at h<;>cases h
  exact⟨fun κ i _ hl=>absurd hl (no i),fun hl=>absurd hl (no 52),fun hl=>absurd hl (no 53)⟩
 ·rw [Array.getElem?_replicate] at hl
  split at hl<;>cases hl
 ·unfold undone
  exact Nat.le_trans List.count_le_length (by simp)
set_option maxRecDepth 20000 in
set_option maxHeartbeats 4000000 in
theorem forms_any (w:World):Calls Tryz.prog 17 #[] w fun e w'=>∃b f,e=.returned (.map (some b))∧w.heap.size≤b∧VMap w' 44 b 54 f∧(∀κ,1≤κ→κ≤14→∃v,f (.int .u8 (κ:Nat))=some v∧FormAt w' v (formG κ) (formR κ) 2010)∧Below w.heap.size w w':=by
 go_enter Tryz.func17,Tryz.ntmps17
 go_upto_region 8 with fail
 obtain⟨W4,hW4⟩:∃W4,(((w.alloc (.cells #[.func (.func 34) #[] #[]] 94)).alloc (.cells #[.func (.func 36) #[] #[]] 94)).alloc (.cells #[.func (.func 41) #[] #[]] 92)).alloc (.cells #[.func (.func 42) #[] #[]] 92)=W4:=⟨_,rfl⟩
 have h1:W4.heap[w.heap.size]?=some (.cells #[.func (.func 34) #[] #[]] 94 (0,0)):=by rw [←hW4];exact at_oldN (at_oldN (at_oldN (at_newN rfl)))
 have h2:W4.heap[w.heap.size+1]?=some (.cells #[.func (.func 36) #[] #[]] 94 (0,0)):=by rw [←hW4];exact at_oldN (at_oldN (at_newN (by simp)))
 have h5:W4.heap[w.heap.size+2]?=some (.cells #[.func (.func 41) #[] #[]] 92 (0,0)):=by rw [←hW4];exact at_oldN (at_newN (by simp))
 have h6:W4.heap[w.heap.size+3]?=some (.cells #[.func (.func 42) #[] #[]] 92 (0,0)):=by rw [←hW4];exact at_newN (by simp)
 have hb4:Below w.heap.size w W4:=by rw [←hW4];exact ((((Below.refl _ _).alloc (Nat.le_refl _) _).alloc (by simp) _).alloc (by simp;omega) _).alloc (by simp;omega) _
 rw [hW4]
 clear hW4
 refine region8_any (by kernel_rfl) (b1:=w.heap.size) (b2:=w.heap.size+1) (b5:=w.heap.size+2) (b6:=w.heap.size+3) ⟨rfl,rfl,rfl,rfl,rfl,rfl,rfl,h1,h2,h5,h6⟩ rfl ?_
 intro A w' b f hA hb hge hM hall
 have g:=getD_of (a:={tmps:=A,defers:=[]}) hA
 have hB:=Lib.hid (hb4.trans (hb.mono hb4.size))
 have hge2:=Lib.hid (Nat.le_trans hb4.size hge)
 replace hM:=Lib.hid hM
 replace hall:=Lib.hid hall
 clear h1 h2 h5 h6 hb4 hb hge
 go_wp2_with fail
 refine bodyPost_ret (v:=.map (some b)) (by simp [results,Tryz.results17,go_sem,hA]) rfl ?_
 exact⟨b,rfl,hge2.out,f,hM.out,hall.out,hB.out⟩
end
end Go.Proofs.YtknkiaedgeejiaaGreatDoor
