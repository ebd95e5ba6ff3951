/- SwF, SwG. -/
import Derived.Test.YtknkiaedgeejiaaGreatDoorSP12
namespace Go.Proofs.YtknkiaedgeejiaaGreatDoor
set_option linter.unusedVariables false
set_option linter.unusedSimpArgs false
section
open Go.RowKit Go.Maps Go.Shelf Go.WideMaps
attribute [local go_sem] Oper.semAt_some
set_option maxRecDepth 20000 in
set_option maxHeartbeats 1000000 in
theorem mk3_any {w:World}{f:Value}{G:Ins→Prop}{R:Ins→List ByteArray}{N bb bv:Nat}(word:ByteArray)(hf:FormAt w f G R N)(hN:N≤100000)(hbb:w.heap[bb]?=some (.cells #[.func (.func 36) #[] #[]] 94 (0,0)))(hbv:w.heap[bv]?=some (.cells #[.func (.func 34) #[] #[]] 94 (0,0))):Calls Tryz.prog 38 #[.string word,f,.pointer (some ⟨bb,0,none⟩),.pointer (some ⟨bv,0,none⟩)] w fun e w'=>∃v,e=.returned v∧FormAt w' v G (fun d=>if bL d.dst=[] then [word]++R d else [d.dst,⟨#[61]⟩,word]++R d) (N+3)∧Below w.heap.size w w':=by
 have hL:=hf
 obtain⟨F,caps,rfl,-,hlen,-⟩:=hL
 obtain⟨w2,hw2⟩:∃w2,(w.alloc (.cells #[.string word] 9)).alloc (.cells #[.func (.func F) #[] caps] 93)=w2:=⟨_,rfl⟩
 have hb:Below w.heap.size w w2:=by rw [←hw2];exact ((Below.refl _ _).alloc (Nat.le_refl _) _).alloc (by simp) _
 have h1:w2.heap[w.heap.size]?=some (.cells #[.string word] 9 (0,0)):=by rw [←hw2];exact at_oldN (at_newN rfl)
 have h2:w2.heap[w.heap.size+1]?=some (.cells #[.func (.func F) #[] caps] 93 (0,0)):=by rw [←hw2];exact at_newN (by simp)
 have h3:=(Stays.of_below hb).lies hbb (by decide)
 have h4:=(Stays.of_below hb).lies hbv (by decide)
 have hF:FormAt w2 (.func (.func 39) #[] #[.pointer (some ⟨bb,0,none⟩),.pointer (some ⟨w.heap.size,0,none⟩),.pointer (some ⟨w.heap.size+1,0,none⟩),.pointer (some ⟨bv,0,none⟩)]) G (fun d=>if bL d.dst=[] then [word]++R d else [d.dst,⟨#[61]⟩,word]++R d) (N+3):=by
  refine⟨_,_,rfl,enters_of Tryz.func39 (by kernel_rfl) rfl,fun d hk hG=>by have:=hlen d hk hG;dsimp only;split<;>simp<;>omega,fun W hW d va vl ha hl hk hG=>?_⟩
  have e1:=hW.lies h1 (by decide)
  have e2:=hW.lies h2 (by decide)
  have e3:=hW.lies h3 (by decide)
  have e4:=hW.lies h4 (by decide)
  exact g3_any hN ha hl hk hG (hf.keep ((Stays.of_below hb).trans hW)) ⟨by rw [blk_cell e3];rfl,(Array.getElem?_eq_some_iff.1 e3).1⟩ ⟨by rw [blk_cell e1];rfl,(Array.getElem?_eq_some_iff.1 e1).1⟩ ⟨by rw [blk_cell e2];rfl,(Array.getElem?_eq_some_iff.1 e2).1⟩ ⟨by rw [blk_cell e4];rfl,(Array.getElem?_eq_some_iff.1 e4).1⟩
 replace hF:=Lib.hid hF
 replace hb:=Lib.hid hb
 replace hw2:=Lib.hid hw2
 clear h1 h2 h3 h4 hbb hbv hf hlen
 go_enter Tryz.func38,Tryz.ntmps38
 go_upto_region 1 with fail
 rw [hw2.out]
 go_wp2_with fail
 go_ret
 exact⟨_,rfl,hF.out,hb.out⟩
theorem FormAt.more {w:World}{f:Value}{G:Ins→Prop}{R:Ins→List ByteArray}{N M:Nat}(h:FormAt w f G R N)(hm:N≤M):FormAt w f G R M:=by
 obtain⟨F,caps,e,h1,h2,h3⟩:=h
 exact⟨F,caps,e,h1,fun d hk hG=>Nat.le_trans (h2 d hk hG) hm,h3⟩
theorem FormAt.less {w:World}{f:Value}{G G':Ins→Prop}{R:Ins→List ByteArray}{N:Nat}(h:FormAt w f G R N)(hm:∀d,G' d→G d):FormAt w f G' R N:=by
 obtain⟨F,caps,e,h1,h2,h3⟩:=h
 exact⟨F,caps,e,h1,fun d hk hG=>h2 d hk (hm d hG),fun W hW d va vl ha hl hk hG=>h3 W hW d va vl ha hl hk (hm d hG)⟩
def formR:Nat→Ins→List ByteArray
 | 1=>fun d=>[d.dst,⟨#[61]⟩,⟨#[97,108,108,111,99,97]⟩]++[numB d]
 | 2=>fun d=>[d.dst,⟨#[61]⟩,⟨#[109,97,108,108,111,99]⟩]++[numB d]
 | 3=>fun d=>[d.dst,⟨#[61]⟩,⟨#[110,117,108,108]⟩]++[]
 | 4=>fun d=>[d.dst,⟨#[61]⟩,⟨#[97,100,100,114]⟩]++[d.fn]
 | 5=>fun d=>[d.dst,⟨#[61]⟩,⟨#[99,111,112,121]⟩]++[d.a]
 | 6=>fun d=>[d.dst,⟨#[61]⟩,⟨#[112,104,105]⟩]++[phiW d]
 | 7=>fun d=>[d.dst,⟨#[61]⟩,⟨#[102,105,101,108,100]⟩]++[d.a,numB d]
 | 8=>fun d=>[d.dst,⟨#[61]⟩,⟨#[108,111,97,100]⟩]++[d.a]
 | 9=>fun d=>[⟨#[115,116,111,114,101]⟩]++[d.a++⟨#[44]⟩,d.b]
 | 10=>fun d=>if bL d.dst=[] then [⟨#[99,97,108,108]⟩]++[callB d.fn d] else [d.dst,⟨#[61]⟩,⟨#[99,97,108,108]⟩]++[callB d.fn d]
 | 11=>fun d=>if bL d.dst=[] then [⟨#[105,99,97,108,108]⟩]++[callB d.a d] else [d.dst,⟨#[61]⟩,⟨#[105,99,97,108,108]⟩]++[callB d.a d]
 | 12=>fun d=>[⟨#[98,114]⟩]++d.labels
 | 13=>fun d=>[⟨#[103,111,116,111]⟩]++d.labels
 | 14=>fun d=>[⟨#[114,101,116]⟩]++(if bL d.a=[] then [] else [d.a])
 | _=>fun _=>[]
def formG (k:Nat)(d:Ins):Prop:=k=6→d.args.length=d.labels.length
theorem fm4 {w:World}:FormAt w (.func (.func 40) #[] #[]) (fun _=>True) (fun d=>[]) 1000:=by
 refine⟨_,_,rfl,enters_of Tryz.func40 (by kernel_rfl) rfl,fun d hk hG=>by simp,fun W hW d va vl ha hl hk hG=>?_⟩
 exact r4_any ha hl hk
theorem fm5 {w:World}:FormAt w (.func (.func 41) #[] #[]) (fun _=>True) (fun d=>[d.a]) 1000:=by
 refine⟨_,_,rfl,enters_of Tryz.func41 (by kernel_rfl) rfl,fun d hk hG=>by simp,fun W hW d va vl ha hl hk hG=>?_⟩
 refine Calls.mono (r5_any ha hl hk) ?_
 rintro e w' ⟨g,rfl,h1,h2,hb⟩
 exact⟨_,rfl,RdC.of (ss:=[d.a]) (Array.getElem?_eq_some_iff.1 h2).1 (Nat.le_refl _) (fun j s hj=>by obtain⟨rfl,rfl⟩:=one_at6 hj;rw [blk_cell h2];rfl),hb⟩
theorem fm6 {w:World}:FormAt w (.func (.func 42) #[] #[]) (fun _=>True) (fun d=>[numB d]) 1000:=by
 refine⟨_,_,rfl,enters_of Tryz.func42 (by kernel_rfl) rfl,fun d hk hG=>by simp,fun W hW d va vl ha hl hk hG=>?_⟩
 exact r6_any ha hl hk
theorem fm7 {w:World}:FormAt w (.func (.func 44) #[] #[]) (fun _=>True) (fun d=>d.labels) 1000:=by
 refine⟨_,_,rfl,enters_of Tryz.func44 (by kernel_rfl) rfl,fun d hk hG=>hk.nl,fun W hW d va vl ha hl hk hG=>?_⟩
 exact r7_any ha hl hk
theorem fm8 {w:World}:FormAt w (.func (.func 45) #[] #[]) (fun _=>True) (fun d=>[d.fn]) 1000:=by
 refine⟨_,_,rfl,enters_of Tryz.func45 (by kernel_rfl) rfl,fun d hk hG=>by simp,fun W hW d va vl ha hl hk hG=>?_⟩
 exact r8_any ha hl hk
theorem fm9 {w:World}:FormAt w (.func (.func 46) #[] #[]) (fun d=>d.args.length=d.labels.length) (fun d=>[phiW d]) 1000:=by
 refine⟨_,_,rfl,enters_of Tryz.func46 (by kernel_rfl) rfl,fun d hk hG=>by simp,fun W hW d va vl ha hl hk hG=>?_⟩
 exact r9_any ha hl hk hG
theorem fm11 {w:World}:FormAt w (.func (.func 50) #[] #[]) (fun _=>True) (fun d=>[d.a++⟨#[44]⟩,d.b]) 1000:=by
 refine⟨_,_,rfl,enters_of Tryz.func50 (by kernel_rfl) rfl,fun d hk hG=>by simp,fun W hW d va vl ha hl hk hG=>?_⟩
 exact r11_any ha hl hk
theorem fm12 {w:World}:FormAt w (.func (.func 51) #[] #[]) (fun _=>True) (fun d=>[callB d.fn d]) 1000:=by
 refine⟨_,_,rfl,enters_of Tryz.func51 (by kernel_rfl) rfl,fun d hk hG=>by simp,fun W hW d va vl ha hl hk hG=>?_⟩
 exact r12_any ha hl hk
theorem fm13 {w:World}:FormAt w (.func (.func 52) #[] #[]) (fun _=>True) (fun d=>[callB d.a d]) 1000:=by
 refine⟨_,_,rfl,enters_of Tryz.func52 (by kernel_rfl) rfl,fun d hk hG=>by simp,fun W hW d va vl ha hl hk hG=>?_⟩
 exact r13_any ha hl hk
theorem fm10 {w:World}{b5 b6:Nat}(h5:w.heap[b5]?=some (.cells #[.func (.func 41) #[] #[]] 92 (0,0)))(h6:w.heap[b6]?=some (.cells #[.func (.func 42) #[] #[]] 92 (0,0))):FormAt w (.func (.func 49) #[] #[.pointer (some ⟨b5,0,none⟩),.pointer (some ⟨b6,0,none⟩)]) (fun _=>True) (fun d=>[d.a,numB d]) 1000:=by
 refine⟨_,_,rfl,enters_of Tryz.func49 (by kernel_rfl) rfl,fun d hk hG=>by simp,fun W hW d va vl ha hl hk hG=>?_⟩
 exact r10_any ha hl hk ⟨by rw [blk_cell (hW.lies h5 (by decide))];rfl,(Array.getElem?_eq_some_iff.1 (hW.lies h5 (by decide))).1⟩ ⟨by rw [blk_cell (hW.lies h6 (by decide))];rfl,(Array.getElem?_eq_some_iff.1 (hW.lies h6 (by decide))).1⟩
theorem fm14 {w:World}{b5:Nat}(h5:w.heap[b5]?=some (.cells #[.func (.func 41) #[] #[]] 92 (0,0))):FormAt w (.func (.func 53) #[] #[.pointer (some ⟨b5,0,none⟩)]) (fun _=>True) (fun d=>(if bL d.a=[] then [] else [d.a])) 1000:=by
 refine⟨_,_,rfl,enters_of Tryz.func53 (by kernel_rfl) rfl,fun d hk hG=>by dsimp only;split<;>simp,fun W hW d va vl ha hl hk hG=>?_⟩
 exact r14_any ha hl hk ⟨by rw [blk_cell (hW.lies h5 (by decide))];rfl,(Array.getElem?_eq_some_iff.1 (hW.lies h5 (by decide))).1⟩
end
section
open Go.RowKit Go.Maps Go.Shelf Go.WideMaps
def findRg (n:Nat):Code→Option (Array Oper)
 | .seq a b=>(findRg n a).or (findRg n b)
 | .cond _ a b=>(findRg n a).or (findRg n b)
 | .loop a=>findRg n a
 | .block _ a=>findRg n a
 | .region k l _=>if k=n then some l else none
 | _=>none
def regOf (f:Func)(n:Nat):Array Oper:=((f.body.bind (findRg n)).getD #[])
noncomputable def ops8:Array Oper:=regOf Tryz.f17 8
theorem ops8_size:ops8.size=54:=by kernel_rfl
def lowB (ops:Array Oper):Bool:=(List.range ops.size).all fun i=>match ops[i]? with
 | some o=>o.guard.isNone&&o.after.all (fun e=>!Region.binds .any e || decide (e.on<i))
 | none=>true
theorem lowB_at {ops:Array Oper}{i:Nat}{o:Oper}(h:lowB ops=true)(ho:ops[i]?=some o):o.guard=none∧∀e∈o.after,Region.binds .any e=true→e.on<i:=by
 unfold lowB at h
 rw [List.all_eq_true] at h
 have h1:=h i (List.mem_range.2 (Array.getElem?_eq_some_iff.1 ho).1)
 simp only [ho,Bool.and_eq_true] at h1
 refine⟨by simpa using h1.1,fun e hem hbe=>?_⟩
 have h4:=h1.2
 rw [Array.all_eq_true_iff_forall_mem] at h4
 simpa [hbe] using h4 e hem
theorem ready_at {ops:Array Oper}{listed:Array Bool}{i:Nat}(hs:listed.size=ops.size)(hl:lowB ops=true)(hi:i<ops.size)(hf:listed[i]?≠some true)(hd:∀k,k<i→(∃o,ops[i]?=some o∧∃e∈o.after,Region.binds .any e=true∧e.on=k)→listed[k]?=some true):i∈Region.ready .any ops listed:=by
 have hil:i<listed.size:=by omega
 have hf':listed.getD i true=false:=by
  rw [Array.getElem?_eq_getElem hil] at hf
  simp only [ne_eq,Option.some.injEq,Bool.not_eq_true] at hf
  simp [Array.getD,hil,hf]
 refine mem_ready.2 ⟨hf',ops[i],Array.getElem?_eq_getElem hi,fun e hem hbe=>?_⟩
 have h2:=hd e.on ((lowB_at hl (Array.getElem?_eq_getElem hi)).2 e hem hbe) ⟨_,Array.getElem?_eq_getElem hi,e,hem,hbe,rfl⟩
 obtain⟨h3,h4⟩:=Array.getElem?_eq_some_iff.1 h2
 simp [Array.getD,h3,h4]
theorem wpOp_of {P:Program}{ops:Array Oper}{Q:Exit→Act→World→Prop}{i:Nat}{o:Oper}{K:Act→World→Prop}{a:Act}{w:World}(ho:ops[i]?=some o)(hg:o.guard=none)(h:o.wp P a w K Q):wpOp P ops Q i K a w:=by
 have hw:Region.wanted o (yielded ops a.tmps)=true:=by unfold Region.wanted;rw [hg]
 unfold wpOp
 rw [ho]
 simp only [hw,if_true]
 exact .inl h
section
variable {a0:Act} {w0:World} {listed:Array Bool} {a:Act} {w:World} {Q:Exit→Act→World→Prop}
def depB (ops:Array Oper)(i k:Nat):Bool:=match ops[i]? with
 | some o=>o.after.any fun e=>Region.binds .any e&&e.on==k
 | none=>false
theorem dep_of {ops:Array Oper}{i k:Nat}{o:Oper}(ho:ops[i]?=some o)(hdep:∀e∈o.after,Region.binds .any e=true→listed[e.on]?=some true)(h:depB ops i k=true):listed[k]?=some true:=by
 unfold depB at h
 simp only [ho,Array.any_eq_true',Bool.and_eq_true,beq_iff_eq] at h
 obtain⟨e,he,hb,rfl⟩:=h
 exact hdep e he hb
theorem getD_of {a:Act}{d:Nat}{v:Value}(h:a.tmps[d]?=some v):a.tmps.getD d undef=v:=by simp [h]
def V8 (b1 b2 b5 b6:Nat)(k:Nat)(w:World)(v:Value):Prop:=match k with
 | 1=>v=.func (.func 34) #[] #[]
 | 2=>v=.func (.func 42) #[] #[]
 | 3=>FormAt w v (formG 1) (formR 1) 2010
 | 5=>v=.func (.func 34) #[] #[]
 | 6=>v=.func (.func 42) #[] #[]
 | 7=>FormAt w v (formG 2) (formR 2) 2010
 | 9=>v=.func (.func 34) #[] #[]
 | 10=>v=.func (.func 40) #[] #[]
 | 11=>FormAt w v (formG 3) (formR 3) 2010
 | 13=>v=.func (.func 34) #[] #[]
 | 14=>FormAt w v (formG 4) (formR 4) 2010
 | 16=>v=.func (.func 34) #[] #[]
 | 17=>v=.func (.func 41) #[] #[]
 | 18=>FormAt w v (formG 5) (formR 5) 2010
 | 20=>v=.func (.func 34) #[] #[]
 | 21=>FormAt w v (formG 6) (formR 6) 2010
 | 23=>v=.func (.func 34) #[] #[]
 | 24=>v=.func (.func 49) #[] #[.pointer (some ⟨b5,0,none⟩),.pointer (some ⟨b6,0,none⟩)]
 | 25=>FormAt w v (formG 7) (formR 7) 2010
 | 27=>v=.func (.func 34) #[] #[]
 | 28=>v=.func (.func 41) #[] #[]
 | 29=>FormAt w v (formG 8) (formR 8) 2010
 | 31=>v=.func (.func 36) #[] #[]
 | 32=>FormAt w v (formG 9) (formR 9) 2010
 | 34=>v=.func (.func 38) #[] #[.pointer (some ⟨b2,0,none⟩),.pointer (some ⟨b1,0,none⟩)]
 | 35=>FormAt w v (formG 10) (formR 10) 2010
 | 37=>v=.func (.func 38) #[] #[.pointer (some ⟨b2,0,none⟩),.pointer (some ⟨b1,0,none⟩)]
 | 38=>FormAt w v (formG 11) (formR 11) 2010
 | 40=>v=.func (.func 36) #[] #[]
 | 41=>v=.func (.func 44) #[] #[]
 | 42=>FormAt w v (formG 12) (formR 12) 2010
 | 44=>v=.func (.func 36) #[] #[]
 | 45=>v=.func (.func 44) #[] #[]
 | 46=>FormAt w v (formG 13) (formR 13) 2010
 | 48=>v=.func (.func 36) #[] #[]
 | 49=>v=.func (.func 53) #[] #[.pointer (some ⟨b5,0,none⟩)]
 | 50=>FormAt w v (formG 14) (formR 14) 2010
 | _=>True
theorem V8.keep {b1 b2 b5 b6 k:Nat}{w w':World}{v:Value}(h:V8 b1 b2 b5 b6 k w v)(hb:Stays w w'):V8 b1 b2 b5 b6 k w' v:=by
 unfold V8 at h ⊢
 split at h
 ·exact h
 ·exact h
 ·exact h.keep hb
 ·exact h
 ·exact h
 ·exact h.keep hb
 ·exact h
 ·exact h
 ·exact h.keep hb
 ·exact h
 ·exact h.keep hb
 ·exact h
 ·exact h
 ·exact h.keep hb
 ·exact h
 ·exact h.keep hb
 ·exact h
 ·exact h
 ·exact h.keep hb
 ·exact h
 ·exact h
 ·exact h.keep hb
 ·exact h
 ·exact h.keep hb
 ·exact h
 ·exact h.keep hb
 ·exact h
 ·exact h.keep hb
 ·exact h
 ·exact h
 ·exact h.keep hb
 ·exact h
 ·exact h
 ·exact h.keep hb
 ·exact h
 ·exact h
 ·exact h.keep hb
 ·trivial
def insL:List (Nat × Nat):=[(1,4),(2,8),(3,12),(4,15),(5,19),(6,22),(7,26),(8,30),(9,33),(10,36),(11,39),(12,43),(13,47),(14,51)]
structure FI (b1 b2 b5 b6:Nat) (a0:Act) (w0:World) (listed:Array Bool) (a:Act) (w:World):Prop where
 size:listed.size=54
 defers:a.defers=a0.defers
 slots:a.tmps.size=48
 low:Below w0.heap.size w0 w
 rest:∀d,1≤d→d<8→a.tmps[d]?=a0.tmps[d]?
 done:∀(k:Nat) (o:Oper) (d:Nat),ops8[k]?=some o→listed[k]?=some true→o.dst=some d→∃v,a.tmps[d]?=some v∧V8 b1 b2 b5 b6 k w v
 ord:(∀κ i,(κ,i)∈insL→listed[i]?=some true→listed[0]?=some true)∧(listed[52]?=some true→listed[0]?=some true)∧(listed[53]?=some true→listed[0]?=some true)
 map:listed[0]?=some true→∃b f n,a.tmps[9]?=some (.map (some b))∧w0.heap.size≤b∧VMap w 44 b n f∧n+undone listed≤54∧(∀κ i,(κ,i)∈insL→listed[i]?=some true→∃v,f (.int .u8 κ)=some v∧FormAt w v (formG κ) (formR κ) 2010)∧(listed[52]?=some true→a.tmps[47]?=some (.map (some b)))∧(listed[53]?=some true→a.tmps[0]?=some (.map (some b)))
def dstsB (ops:Array Oper):Bool:=(List.range ops.size).all fun i=>(List.range ops.size).all fun j=>i==j || match ops[i]?,ops[j]? with
 | some o,some o'=>o.dst==none || o.dst != o'.dst
 | _,_=>true
theorem dstsB_at {ops:Array Oper}(h:dstsB ops=true){i j:Nat}{o o':Oper}(hi:ops[i]?=some o)(hj:ops[j]?=some o')(hne:i≠j){d:Nat}(hd:o.dst=some d):o'.dst≠some d:=by
 unfold dstsB at h
 rw [List.all_eq_true] at h
 have h1:=h i (List.mem_range.2 (Array.getElem?_eq_some_iff.1 hi).1)
 rw [List.all_eq_true] at h1
 have h2:=h1 j (List.mem_range.2 (Array.getElem?_eq_some_iff.1 hj).1)
 simp only [hi,hj,Bool.or_eq_true,beq_iff_eq,bne_iff_ne,hd] at h2
 rcases h2 with h2 | h2 | h2
 ·exact absurd h2 hne
 ·cases h2
 ·exact fun e=>h2 e.symm
theorem dsts8:dstsB ops8=true:=by kernel_rfl
theorem FI.val {b1 b2 b5 b6:Nat}(H:FI b1 b2 b5 b6 a0 w0 listed a w)(k d:Nat)(hk:(ops8[k]?).bind (·.dst)=some d)(hl:listed[k]?=some true):∃v,a.tmps[d]?=some v∧V8 b1 b2 b5 b6 k w v:=by
 rcases ho:ops8[k]? with _ | o
 ·rw [ho] at hk;cases hk
 ·rw [ho] at hk
  exact H.done k o d ho hl hk
theorem FI.go {b1 b2 b5 b6:Nat}(H:FI b1 b2 b5 b6 a0 w0 listed a w){i d:Nat}{o:Oper}{v:Value}{w':World}(ho:ops8[i]?=some o)(hod:o.dst=some d)(hi:listed[i]?=some false)(hd:8≤d∧d<48∧d≠9∧d≠47)(hno:i≠0∧i≠52∧i≠53∧∀κ,(κ,i) ∉ insL)(hb:Below w.heap.size w w')(hv:V8 b1 b2 b5 b6 i w' v):FI b1 b2 b5 b6 a0 w0 (listed.setIfInBounds i true) (a.put (some d) v) w':=by
 have hlt:=(Array.getElem?_eq_some_iff.1 hi).1
 have hput:(a.put (some d) v).tmps=a.tmps.setIfInBounds d v:=rfl
 have hoff:∀j,j≠i→(listed.setIfInBounds i true)[j]?=listed[j]?:=fun j hj=>Array.getElem?_setIfInBounds_ne (fun h=>hj h.symm)
 have hslot:∀e,e≠d→(a.put (some d) v).tmps[e]?=a.tmps[e]?:=fun e he=>by rw [hput,Array.getElem?_setIfInBounds_ne (fun h=>he h.symm)]
 have hu:=undone_set hi
 refine⟨by simpa using H.size,H.defers,by rw [hput];simpa using H.slots,H.low.trans (hb.mono H.low.size),fun e h1 h2=>by rw [hslot e (by omega)];exact H.rest e h1 h2,fun k o' e hk hl he=>?_,?_,fun h0=>?_⟩
 ·by_cases hki:k=i
  ·subst hki
   rw [ho] at hk
   obtain rfl:=Option.some.inj hk
   rw [hod] at he
   obtain rfl:=Option.some.inj he
   exact⟨v,by rw [hput,Array.getElem?_setIfInBounds_self_of_lt (by rw [H.slots];omega)],hv⟩
  ·rw [hoff k hki] at hl
   obtain⟨u,hu1,hu2⟩:=H.done k o' e hk hl he
   have hne:e≠d:=fun h=>dstsB_at dsts8 ho hk (fun e=>hki e.symm) hod (by rw [he,h])
   exact⟨u,by rw [hslot e hne];exact hu1,hu2.keep (Stays.of_below hb)⟩
 ·rw [hoff 0 (fun h=>hno.1 h.symm),hoff 52 (fun h=>hno.2.1 h.symm),hoff 53 (fun h=>hno.2.2.1 h.symm)]
  exact⟨fun κ j hκ hl=>H.ord.1 κ j hκ (by rw [hoff j (fun h=>hno.2.2.2 κ (h ▸ hκ))] at hl;exact hl),H.ord.2⟩
 ·rw [hoff 0 (fun h=>hno.1 h.symm)] at h0
  obtain⟨b,f,n,h1,h2,h3,h4,h5,h6,h7⟩:=H.map h0
  refine⟨b,f,n,by rw [hslot 9 (by omega)];exact h1,h2,h3.block (hb.block b h3.lt),by omega,fun κ j hκ hl=>?_,fun hl=>?_,fun hl=>?_⟩
  ·have hj:j≠i:=fun h=>hno.2.2.2 κ (h ▸ hκ)
   rw [hoff j hj] at hl
   obtain⟨u,hu1,hu2⟩:=h5 κ j hκ hl
   exact⟨u,hu1,hu2.keep (Stays.of_below hb)⟩
  ·rw [hoff 52 (fun h=>hno.2.1 h.symm)] at hl
   rw [hslot 47 (by omega)]
   exact h6 hl
  ·rw [hoff 53 (fun h=>hno.2.2.1 h.symm)] at hl
   rw [hslot 0 (by omega)]
   exact h7 hl
structure F0 (b1 b2 b5 b6:Nat) (a0:Act) (w0:World):Prop where
 s1:a0.tmps[1]?=some (.pointer (some ⟨b1,0,none⟩))
 s2:a0.tmps[2]?=some (.pointer (some ⟨b2,0,none⟩))
 s3:a0.tmps[3]?=some (.func (.func 38) #[] #[.pointer (some ⟨b2,0,none⟩),.pointer (some ⟨b1,0,none⟩)])
 s4:a0.tmps[4]?=some (.func (.func 40) #[] #[])
 s5:a0.tmps[5]?=some (.pointer (some ⟨b5,0,none⟩))
 s6:a0.tmps[6]?=some (.pointer (some ⟨b6,0,none⟩))
 s7:a0.tmps[7]?=some (.func (.func 44) #[] #[])
 h1:w0.heap[b1]?=some (.cells #[.func (.func 34) #[] #[]] 94 (0,0))
 h2:w0.heap[b2]?=some (.cells #[.func (.func 36) #[] #[]] 94 (0,0))
 h5:w0.heap[b5]?=some (.cells #[.func (.func 41) #[] #[]] 92 (0,0))
 h6:w0.heap[b6]?=some (.cells #[.func (.func 42) #[] #[]] 92 (0,0))
theorem FI.box {b1 b2 b5 b6 b:Nat}{t:TypeId}(H:FI b1 b2 b5 b6 a0 w0 listed a w){v:Value}(h:w0.heap[b]?=some (.cells #[v] t (0,0))):w.cell? ⟨b,0,none⟩=some v∧w.heap[b]?=some (.cells #[v] t (0,0)):=by
 have e:=(H.low.block b (Array.getElem?_eq_some_iff.1 h).1).trans h
 exact⟨by rw [blk_cell e];rfl,e⟩
section
attribute [local instance] Classical.propDecidable
theorem wp_vmap_ins {o:Oper}{K:Act→World→Prop}{k e:TypeId}{m x v:Operand}{t:TypeId}(hop:o.op=Op.insert t m x v)(hK0:Keyed Tryz.prog k)(ht:Tryz.prog.underlying t=some (.map k e)){b n:Nat}{f:Lit→Option Value}(h:VMap w k b n f)(hn:n<maxLen)(hm:a.eval m=.map (some b)){key val:Value}{kl:Lit}(hx:a.eval x=key)(hv:a.eval v=val)(hkey:keyOf Tryz.prog k key=some kl)
  (hK:∀w',VMap w' k b (n+1) (fun s=>if s=kl then some val else f s)→Touch w w' (fun j=>j=b)→K (a.put o.dst undef) w'):o.wp Tryz.prog a w K Q:=by
 obtain⟨D,hown,hD⟩:=h
 obtain⟨w1,hrun,r1,r2⟩:=hown.store hK0 ht hn hkey (d:=.held val) (ps:=[]) rfl
 unfold Oper.wp
 simp [execOp,hop,hm,hx,hv,hrun,Result.andThen]
 exact hK w1 ⟨_,r1,hD.put (hK0.key hkey) val⟩ (Touch.of_grown r2.grown (fun b e=>(Option.some.inj e).symm))
theorem Stays.of_map {w w':World}{k:TypeId}{b n:Nat}{f:Lit→Option Value}(h:VMap w k b n f)(hT:Touch w w' (fun j=>j=b)):Stays w w':=by
 obtain⟨D,⟨es,clock,hb,-⟩,-⟩:=h
 refine⟨hT.size,fun j cs t fr _ _ e=>?_⟩
 rw [hT.block j (Array.getElem?_eq_some_iff.1 e).1 (fun ej=>by subst ej;rw [hb] at e;cases e)]
 exact e
theorem insL_inj {κ κ' i j:Nat}(h:(κ,i)∈insL)(h':(κ',j)∈insL)(hne:j≠i):κ'≠κ:=by
 simp only [insL,List.mem_cons,Prod.mk.injEq,List.not_mem_nil,or_false] at h h'
 omega
theorem insL_no {κ i:Nat}(h:(κ,i)∈insL):i≠0∧i≠52∧i≠53:=by
 simp only [insL,List.mem_cons,Prod.mk.injEq,List.not_mem_nil,or_false] at h
 omega
theorem FI.ins {b1 b2 b5 b6:Nat}(H:FI b1 b2 b5 b6 a0 w0 listed a w){i κ b n:Nat}{o:Oper}{v:Value}{w':World}{f:Lit→Option Value}(hκ:(κ,i)∈insL)(ho:ops8[i]?=some o)(hod:o.dst=none)(hi:listed[i]?=some false)(h0:listed[0]?=some true)(h1:a.tmps[9]?=some (.map (some b)))(h2:w0.heap.size≤b)(h3:VMap w 44 b n f)(h4:n+undone listed≤54)(h5:∀κ i,(κ,i)∈insL→listed[i]?=some true→∃v,f (.int .u8 κ)=some v∧FormAt w v (formG κ) (formR κ) 2010)(h6:listed[52]?=some true→a.tmps[47]?=some (.map (some b)))(h7:listed[53]?=some true→a.tmps[0]?=some (.map (some b)))
  (hv:FormAt w v (formG κ) (formR κ) 2010) (hM:VMap w' 44 b (n+1) (fun s=>if s=.int .u8 κ then some v else f s)) (hT:Touch w w' (fun j=>j=b)):FI b1 b2 b5 b6 a0 w0 (listed.setIfInBounds i true) (a.put none undef) w':=by
 have hlt:=(Array.getElem?_eq_some_iff.1 hi).1
 have hoff:∀j,j≠i→(listed.setIfInBounds i true)[j]?=listed[j]?:=fun j hj=>Array.getElem?_setIfInBounds_ne (fun h=>hj h.symm)
 have hno:=insL_no hκ
 have hu:=undone_set hi
 have hS:=Stays.of_map h3 hT
 refine⟨by simpa using H.size,H.defers,H.slots,H.low.trans (hT.below H.low.size (fun k hk e=>by omega)),H.rest,fun k o' e hk hl he=>?_,?_,fun _=>?_⟩
 ·have hki:k≠i:=by
   intro h
   subst h
   rw [ho] at hk
   obtain rfl:=Option.some.inj hk
   rw [hod] at he
   cases he
  rw [hoff k hki] at hl
  obtain⟨u,hu1,hu2⟩:=H.done k o' e hk hl he
  exact⟨u,hu1,hu2.keep hS⟩
 ·rw [hoff 0 (fun h=>hno.1 h.symm)]
  exact⟨fun _ _ _ _=>h0,fun _=>h0,fun _=>h0⟩
 ·refine⟨b,_,n+1,h1,h2,hM,by omega,fun κ' j hj hl=>?_,fun hl=>?_,fun hl=>?_⟩
  ·by_cases hji:j=i
   ·subst hji
    have e:κ'=κ:=by
     simp only [insL,List.mem_cons,Prod.mk.injEq,List.not_mem_nil,or_false] at hj hκ
     omega
    subst e
    exact⟨v,if_pos rfl,hv.keep hS⟩
   ·rw [hoff j hji] at hl
    obtain⟨u,hu1,hu2⟩:=h5 κ' j hj hl
    have hne:=insL_inj hκ hj hji
    refine⟨u,?_,hu2.keep hS⟩
    show (if _=_ then _ else _)=_
    rw [if_neg (fun e=>hne (by have e2:(κ':Int)=κ:=(by simpa using e);omega))]
    exact hu1
  ·rw [hoff 52 (fun h=>hno.2.1 h.symm)] at hl
   exact h6 hl
  ·rw [hoff 53 (fun h=>hno.2.2 h.symm)] at hl
   exact h7 hl
end
theorem FI.make {b1 b2 b5 b6:Nat}(H:FI b1 b2 b5 b6 a0 w0 listed a w){o:Oper}(ho:ops8[0]?=some o)(hod:o.dst=some 9)(hi:listed[0]?=some false):FI b1 b2 b5 b6 a0 w0 (listed.setIfInBounds 0 true) (a.put (some 9) (.map (some w.heap.size))) (w.alloc (.map #[] 0)):=by
 have hlt:=(Array.getElem?_eq_some_iff.1 hi).1
 have hput:(a.put (some 9) (.map (some w.heap.size))).tmps=a.tmps.setIfInBounds 9 (.map (some w.heap.size)):=rfl
 have hoff:∀j,j≠0→(listed.setIfInBounds 0 true)[j]?=listed[j]?:=fun j hj=>Array.getElem?_setIfInBounds_ne (fun h=>hj h.symm)
 have hslot:∀e,e≠9→(a.put (some 9) (.map (some w.heap.size))).tmps[e]?=a.tmps[e]?:=fun e he=>by rw [hput,Array.getElem?_setIfInBounds_ne (fun h=>he h.symm)]
 have hb:Below w.heap.size w (w.alloc (.map #[] 0)):=(Below.refl _ _).alloc (Nat.le_refl _) _
 have hu:=undone_set hi
 have hu2:undone listed≤54:=by
  unfold undone
  refine Nat.le_trans List.count_le_length ?_
  have:=H.size
  simp
  omega
 have no:listed[0]?≠some true:=by rw [hi];decide
 refine⟨by simpa using H.size,H.defers,by rw [hput];simpa using H.slots,H.low.trans (hb.mono H.low.size),fun e h1 h2=>by rw [hslot e (by omega)];exact H.rest e h1 h2,fun k o' e hk hl he=>?_,?_,fun _=>?_⟩
 ·by_cases hki:k=0
  ·subst hki
   rw [ho] at hk
   obtain rfl:=Option.some.inj hk
   rw [hod] at he
   obtain rfl:=Option.some.inj he
   exact⟨_,by rw [hput,Array.getElem?_setIfInBounds_self_of_lt (by rw [H.slots];omega)],trivial⟩
  ·rw [hoff k hki] at hl
   obtain⟨u,hu1,hu2⟩:=H.done k o' e hk hl he
   have hne:e≠9:=fun h=>dstsB_at dsts8 ho hk (fun e=>hki e.symm) hod (by rw [he,h])
   exact⟨u,by rw [hslot e hne];exact hu1,hu2.keep (Stays.of_below hb)⟩
 ·have e0:(listed.setIfInBounds 0 true)[0]?=some true:=Array.getElem?_setIfInBounds_self_of_lt hlt
  exact⟨fun _ _ _ _=>e0,fun _=>e0,fun _=>e0⟩
 ·refine⟨w.heap.size,_,0,by rw [hput,Array.getElem?_setIfInBounds_self_of_lt (by rw [H.slots];omega)],H.low.size,VMap.new w _,by omega,fun κ j hj hl=>?_,fun hl=>?_,fun hl=>?_⟩
  ·rw [hoff j (insL_no hj).1] at hl
   exact absurd (H.ord.1 κ j hj hl) no
  ·rw [hoff 52 (by decide)] at hl
   exact absurd (H.ord.2.1 hl) no
  ·rw [hoff 53 (by decide)] at hl
   exact absurd (H.ord.2.2 hl) no
theorem FI.last {b1 b2 b5 b6:Nat}(H:FI b1 b2 b5 b6 a0 w0 listed a w){i d b:Nat}{o:Oper}(ho:ops8[i]?=some o)(hod:o.dst=some d)(hi:listed[i]?=some false)(hid:(i=52∧d=47)∨(i=53∧d=0))(h0:listed[0]?=some true)(hm:a.tmps[9]?=some (.map (some b))):FI b1 b2 b5 b6 a0 w0 (listed.setIfInBounds i true) (a.put (some d) (.map (some b))) w:=by
 have hlt:=(Array.getElem?_eq_some_iff.1 hi).1
 have hput:(a.put (some d) (.map (some b))).tmps=a.tmps.setIfInBounds d (.map (some b)):=rfl
 have hoff:∀j,j≠i→(listed.setIfInBounds i true)[j]?=listed[j]?:=fun j hj=>Array.getElem?_setIfInBounds_ne (fun h=>hj h.symm)
 have hslot:∀e,e≠d→(a.put (some d) (.map (some b))).tmps[e]?=a.tmps[e]?:=fun e he=>by rw [hput,Array.getElem?_setIfInBounds_ne (fun h=>he h.symm)]
 have hu:=undone_set hi
 have hself:(a.put (some d) (.map (some b))).tmps[d]?=some (.map (some b)):=by rw [hput,Array.getElem?_setIfInBounds_self_of_lt (by rw [H.slots];omega)]
 refine⟨by simpa using H.size,H.defers,by rw [hput];simpa using H.slots,H.low,fun e h1 h2=>by rw [hslot e (by omega)];exact H.rest e h1 h2,fun k o' e hk hl he=>?_,?_,fun _=>?_⟩
 ·by_cases hki:k=i
  ·subst hki
   rw [ho] at hk
   obtain rfl:=Option.some.inj hk
   rw [hod] at he
   obtain rfl:=Option.some.inj he
   refine⟨_,hself,?_⟩
   rcases hid with ⟨rfl,rfl⟩ | ⟨rfl,rfl⟩<;>trivial
  ·rw [hoff k hki] at hl
   obtain⟨u,hu1,hu2⟩:=H.done k o' e hk hl he
   have hne:e≠d:=fun h=>dstsB_at dsts8 ho hk (fun e=>hki e.symm) hod (by rw [he,h])
   exact⟨u,by rw [hslot e hne];exact hu1,hu2⟩
 ·rw [hoff 0 (by omega)]
  exact⟨fun _ _ _ _=>h0,fun _=>h0,fun _=>h0⟩
 ·obtain⟨b',f,n,h1,h2,h3,h4,h5,h6,h7⟩:=H.map h0
  rw [hm] at h1
  simp only [Option.some.injEq,Value.map.injEq] at h1
  subst h1
  refine⟨b,f,n,by rw [hslot 9 (by omega)];exact hm,h2,h3,by omega,fun κ j hj hl=>?_,fun hl=>?_,fun hl=>?_⟩
  ·have hn:=insL_no hj
   rw [hoff j (by omega)] at hl
   exact h5 κ j hj hl
  ·rcases hid with ⟨rfl,rfl⟩ | ⟨rfl,rfl⟩
   ·exact hself
   ·rw [hoff 52 (by decide)] at hl
    rw [hslot 47 (by decide)]
    exact h6 hl
  ·rcases hid with ⟨rfl,rfl⟩ | ⟨rfl,rfl⟩
   ·rw [hoff 53 (by decide)] at hl
    rw [hslot 0 (by decide)]
    exact h7 hl
   ·exact hself
end
end
end Go.Proofs.YtknkiaedgeejiaaGreatDoor
