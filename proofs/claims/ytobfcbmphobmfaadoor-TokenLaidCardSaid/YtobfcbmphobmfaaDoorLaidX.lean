/- TokenLaid: a word of each kind. -/
import Derived.Test.YtobfcbmphobmfaaDoorJoinsW
import Derived.Test.YtobfcbmphobmfaaDoorLaidJ
import Derived.Deep.Cut
import Derived.Deep.CutRange
import Derived.Deep.CutBlock
import Derived.Test.YtobfcbmphobmfaaDoorFindB
namespace Go.Proofs.YtobfcbmphobmfaaDoor
open Go.RowKit Go.Shelf

/-- A word that is to be laid: its kind, its text, what stands ahead. -/
structure Wd where
  kind : Nat
  text : ByteArray
  ahead : Nat
def RdWs (w : World) (v : Value) (L : List Wd) : Prop :=
  ∃ a cap, v = .slice a L.length cap ∧ ∀ i x, L[i]? = some x → ∃ b off, a = some ⟨b, off, none⟩ ∧ b < w.heap.size ∧ w.cell? ⟨b, off + i * 3, none⟩ = some (.int .u8 x.kind) ∧ w.cell? ⟨b, off + i * 3 + 1, none⟩ = some (.string x.text) ∧ w.cell? ⟨b, off + i * 3 + 2, none⟩ = some (.int .u8 x.ahead) ∧ x.kind < 256 ∧ x.ahead < 256 ∧ x.text.size ≤ maxLen
def gapsV : Array Value := #[.string ⟨#[32]⟩, .string ⟨#[9]⟩, .string ⟨#[10]⟩, .string ⟨#[13, 10]⟩, .string ⟨#[32, 59, 32, 97, 32, 40, 49, 32, 45, 10]⟩, .string ⟨#[10, 10, 32]⟩, .string ⟨#[59, 10]⟩]
def LaidRel (w wr : World) (n : Nat) (t want ln cl sg i : Value) : Prop :=
  ∃ (k : Nat) (tx : ByteArray) (ts : List Tok) (s : Bool), k ≤ n ∧ i = .int .i64 k ∧ t = .string tx ∧ Laid tx.data.toList ts s ∧ sg = .bool s ∧ ln = .int .i64 ((spotOf tx.data.toList).1 : Nat) ∧ cl = .int .i64 ((spotOf tx.data.toList).2 : Nat) ∧ tx.size ≤ 60 * k ∧ ts.length = k ∧ wr.ownsRow (w.heap.size + 1) 34 5 want ts.length (ts.flatMap cellsT) ∧ Below (w.heap.size + 1) (w.alloc (.cells gapsV 9)) wr

def nameB (c : UInt8) : Bool := decide ((97 ≤ (c.toNat : Int) ∧ (c.toNat : Int) ≤ 122) ∨ (48 ≤ (c.toNat : Int) ∧ (c.toNat : Int) ≤ 57) ∨ (c.toNat : Int) = 46 ∨ (c.toNat : Int) = 95)
theorem name_part {c : UInt8} (h : nameB c = true) : partB c = true := by
  unfold nameB at h
  unfold partB letterB digitB
  simp [UInt8.le_iff_toNat_le, ← UInt8.toNat_inj] at h ⊢
  omega
def NameRel (s : ByteArray) (wv i : Value) : Prop :=
  ∃ (m : Nat) (tw : ByteArray), m ≤ 40 ∧ m ≤ s.size ∧ i = .int .i64 m ∧ wv = .string tw ∧ tw.size ≤ m + 1 ∧ ∃ r, tw.data.toList = 119 :: r ∧ ∀ b ∈ r, partB b = true
theorem tl_data (s : ByteArray) : s.toList = s.data.toList := Lib.toList_data s
theorem tl_empty {s : ByteArray} : s.toList.isEmpty = true ↔ s.data.toList = [] := by rw [tl_data, List.isEmpty_iff]
theorem tl_full {s : ByteArray} : s.toList.isEmpty = false ↔ s.data.toList ≠ [] := by rw [tl_data]; simp
def NumRel (s : ByteArray) (wv nv i : Value) : Prop :=
  ∃ (m num : Nat) (tw : ByteArray), m ≤ s.size ∧ i = .int .i64 m ∧ wv = .string tw ∧ nv = .int .i64 num ∧ tw.size ≤ 9 ∧ num = numOf tw.data.toList ∧ (∀ b ∈ tw.data.toList, digitB b = true) ∧ (tw.data.toList.head? ≠ some 48)
theorem extr_one {s : ByteArray} {m : Nat} (h : m < s.size) : (s.extract m (m + 1)).data.toList = [s[m]] := by
  rw [ByteArray.data_extract]
  simp only [Array.toList_extract, List.extract_eq_take_drop]
  rw [Nat.add_sub_cancel_left, List.drop_eq_getElem_cons (by simpa using h), List.take_succ_cons, List.take_zero]
  rfl
theorem extr_app {s t : ByteArray} {m : Nat} (h : m < s.size) : (t ++ s.extract m (m + 1)).data.toList = t.data.toList ++ [s[m]] := by
  rw [← extr_one h]; simp
theorem size_list (s : ByteArray) : s.data.toList.length = s.size := by simp
theorem name_add {s tw : ByteArray} {m : Nat} (h : m < s.size) (h40 : m < 40) (hp : partB s[m] = true) (hz : tw.size ≤ m + 1) (hr : ∃ r, tw.data.toList = 119 :: r ∧ ∀ b ∈ r, partB b = true) : NameRel s (.string (tw ++ s.extract m (m + 1))) (.int .i64 ((m : Int) + 1)) := by
  obtain ⟨r, h1, h2⟩ := hr
  refine ⟨m + 1, _, by omega, by omega, by go_num, rfl, ?_, r ++ [s[m]], ?_, ?_⟩
  · rw [← size_list, extr_app h, List.length_append, size_list]; simp; omega
  · rw [extr_app h, h1]; rfl
  · intro b hb
    rcases List.mem_append.1 hb with hb | hb
    · exact h2 b hb
    · rw [List.mem_singleton.1 hb]; exact hp
theorem name_keep {s tw : ByteArray} {m : Nat} (h : m < s.size) (h40 : m < 40) (hz : tw.size ≤ m + 1) (hr : ∃ r, tw.data.toList = 119 :: r ∧ ∀ b ∈ r, partB b = true) : NameRel s (.string tw) (.int .i64 ((m : Int) + 1)) :=
  ⟨m + 1, _, by omega, by omega, by go_num, rfl, by omega, hr⟩
theorem num_add {s tw : ByteArray} {m num : Nat} (h : m < s.size) (h9 : tw.size < 9) (hp : (49 ≤ (s[m].toNat : Int) ∧ (s[m].toNat : Int) ≤ 57) ∨ (s[m] = 48 ∧ tw.data.toList ≠ [])) (hn : num = numOf tw.data.toList) (hd : ∀ b ∈ tw.data.toList, digitB b = true) (h0 : tw.data.toList.head? ≠ some 48) : NumRel s (.string (tw ++ s.extract m (m + 1))) (.int .i64 (10 * (num : Int) + ((s[m].toNat : Int) - 48))) (.int .i64 ((m : Int) + 1)) := by
  have hdg : digitB s[m] = true := by
    unfold digitB
    rcases hp with ⟨a, b⟩ | ⟨a, b⟩
    · simp [UInt8.le_iff_toNat_le]; omega
    · rw [a]; rfl
  have hv := digit_val hdg
  refine ⟨m + 1, 10 * num + (s[m].toNat - 48), _, by omega, by go_num, rfl, ?_, ?_, ?_, ?_, ?_⟩
  · congr 1; omega
  · rw [← size_list, extr_app h, List.length_append, size_list]; simp; omega
  · rw [extr_app h, numOf_snoc, ← hn]
  · rw [extr_app h]
    intro b hb
    rcases List.mem_append.1 hb with hb | hb
    · exact hd b hb
    · rw [List.mem_singleton.1 hb]; exact hdg
  · rw [extr_app h]
    cases ht : tw.data.toList with
    | nil =>
      rcases hp with ⟨a, b⟩ | ⟨a, b⟩
      · simp
        intro e
        rw [e] at a
        exact absurd a (by decide)
      · exact absurd ht b
    | cons y r => rw [ht] at h0; simpa using h0
theorem num_keep {s tw : ByteArray} {m num : Nat} (h : m < s.size) (h9 : tw.size < 9) (hn : num = numOf tw.data.toList) (hd : ∀ b ∈ tw.data.toList, digitB b = true) (h0 : tw.data.toList.head? ≠ some 48) : NumRel s (.string tw) (.int .i64 num) (.int .i64 ((m : Int) + 1)) :=
  ⟨m + 1, num, _, by omega, by go_num, rfl, rfl, by omega, hn, hd, h0⟩
theorem sign_cut : ∀ r, r < 9 → ∃ c, ((⟨#[61, 44, 58, 40, 41, 123, 125, 91, 93]⟩ : ByteArray).extract r (r + 1)).data.toList = [c] ∧ signB c = true := by
  intro r hr
  have : r = 0 ∨ r = 1 ∨ r = 2 ∨ r = 3 ∨ r = 4 ∨ r = 5 ∨ r = 6 ∨ r = 7 ∨ r = 8 := by omega
  rcases this with rfl | rfl | rfl | rfl | rfl | rfl | rfl | rfl | rfl <;> exact ⟨_, rfl, by decide⟩
theorem gap_at : ∀ r, r < 7 → ∃ g : ByteArray, gapsV[r]? = some (.string g) ∧ g.data.toList ∈ gapsL ∧ g.size ≤ 10 := by
  intro r hr
  have : r = 0 ∨ r = 1 ∨ r = 2 ∨ r = 3 ∨ r = 4 ∨ r = 5 ∨ r = 6 := by omega
  rcases this with rfl | rfl | rfl | rfl | rfl | rfl | rfl <;> exact ⟨_, rfl, by decide, by decide⟩
theorem spotL_snoc (p : Nat × Nat) (l : List UInt8) (b : UInt8) : spotL p (l ++ [b]) = spotStep (spotL p l) b := by unfold spotL; rw [List.foldl_append]; rfl
theorem spotL_le (p : Nat × Nat) (l : List UInt8) : (spotL p l).1 ≤ p.1 + l.length ∧ (spotL p l).2 ≤ p.2 + l.length + 1 := by
  refine snoc_ind (Q := fun l => (spotL p l).1 ≤ p.1 + l.length ∧ (spotL p l).2 ≤ p.2 + l.length + 1) ?_ ?_ l
  · exact ⟨Nat.le_refl _, Nat.le_succ _⟩
  · intro l b ⟨h1, h2⟩
    rw [spotL_snoc, List.length_append, List.length_singleton]
    unfold spotStep
    split
    · exact ⟨by simp; omega, by simp⟩
    · exact ⟨by simp; omega, by simp; omega⟩
def GapL (g : ByteArray) (p : Nat × Nat) (ln cl i : Value) : Prop :=
  ∃ m : Nat, m ≤ g.size ∧ i = .int .i64 m ∧ ln = .int .i64 ((spotL p (g.data.toList.take m)).1 : Nat) ∧ cl = .int .i64 ((spotL p (g.data.toList.take m)).2 : Nat)
def CutRel (wr wx : World) (k3 : Nat) (wv nv : Value) : Prop :=
  ∃ (tw : ByteArray) (num : Nat), wv = .string tw ∧ nv = .int .i64 num ∧ FormOk (k3 + 1) tw.data.toList num ∧ tw.size ≤ 41 ∧ Below wr.heap.size wr wx

set_option maxRecDepth 20000 in
set_option maxHeartbeats 8000000 in
theorem laid_word {c : Code} (hc : Func.blockOf Tryd.f5 2 = some c) {Q : Exit → Act → World → Prop} {wr : World} {n cap k b off k3 : Nat} {x : Wd} {u1 u2 u3 u4 u5 u6 u7 u8 u9 u10 u15 u16 u17 u18 u19 u20 u21 u22 u23 u24 u25 u26 u27 u28 u29 u30 u31 u32 u33 u34 u35 u36 u37 u38 u39 u40 u42 u43 u44 u45 u46 u47 u48 u49 u50 u51 u52 u53 u54 u55 u56 u57 u58 u59 u60 u61 u62 u63 u64 u65 u66 u67 u68 u69 u70 u71 u72 u73 u74 u75 u76 u77 u78 u79 u80 u81 u82 u83 u84 u85 u86 u87 u88 u89 u90 u91 u92 u93 u94 u95 u96 u97 u98 u99 u100 u101 u102 u103 u104 u105 u106 u107 u108 u109 u110 u111 u112 u113 u114 u115 u116 u117 u118 u119 u120 u121 u122 u123 u124 u125 u126 u127 u128 u129 u130 u131 u132 u133 u134 u135 u136 u137 u138 u139 u140 u141 u142 u143 u144 u145 u146 u147 u148 u149 u150 u151 u152 u153 u154 u155 u156 u157 u158 u159 u160 u161 u162 u163 u164 u165 u166 u167 u168 u169 u170 u171 u172 u173 u174 u175 u176 u177 u178 u179 u180 u181 u182 u183 u184 u185 u186 u187 u188 u189 u190 u191 u192 u193 u194 u195 u196 u197 u198 u199 u200 u201 u202 u203 u204 u205 u206 u207 u208 u209 u210 u211 u212 u213 u214 u215 u216 u217 u218 u219 u220 u221 u222 u223 u224 u225 u226 u227 u228 u229 u230 u231 u232 u233 u234 u235 u236 u237 u238 u239 u240 u241 u242 u243 u244 u245 u246 u247 u248 u249 u250 u251 u252 u253 u254 u255 u256 u257 u258 u259 u260 u261 u262 u263 u264 u265 u266 u267 u268 u269 u270 u271 u272 u273 u274 u275 u276 u277 u278 u279 u280 u281 u282 : Value}
    (c1 : wr.cell? ⟨b, off + k * 3 + 1, none⟩ = some (.string x.text)) (hs1 : x.text.size ≤ maxLen) (hk3l : k3 < 3) (i1 : (k : Int) < (n : Int))
    (hQ : Hid (∀ {wx : World} {v12 v13 v15 v16 v17 v18 v42 v43 v44 v45 v46 v47 v48 v49 v50 v51 v52 v53 v54 v55 v56 v57 v58 v59 v60 v61 v62 v63 v64 v65 v66 v67 v68 v69 v70 v71 v72 v73 v74 v75 v76 v77 v78 v79 v80 v81 v82 v83 v84 v85 v86 v87 v88 v89 v90 v91 v92 v93 v94 v95 v96 v97 v98 v99 v100 v101 v102 v103 v104 v105 v106 v107 v108 v109 v110 v111 v112 v113 v114 v115 v116 v117 v118 v119 v120 v121 v122 v123 v124 v125 v126 v127 v128 v129 v130 v131 v132 v133 v134 v135 v136 v137 v138 v139 v140 v141 v142 v143 v144 v145 v146 v147 v148 v149 v150 v151 v152 v153 v154 v155 v156 v157 v158 v159 v160 v161 v162 v163 v164 v165 v166 v167 v168 v169 v170 : Value}, CutRel wr wx k3 v12 v13 → Q .normal { tmps := #[.slice (some ⟨b, off, none⟩) n cap, u1, u2, u3, u4, u5, u6, u7, u8, u9, u10, .int .i64 k, v12, v13, .int .u8 (k3 : Nat), v15, v16, v17, v18, u19, u20, u21, u22, u23, u24, u25, u26, u27, u28, u29, u30, u31, u32, u33, u34, u35, u36, u37, u38, u39, u40, .int .u8 (k3 : Nat), v42, v43, v44, v45, v46, v47, v48, v49, v50, v51, v52, v53, v54, v55, v56, v57, v58, v59, v60, v61, v62, v63, v64, v65, v66, v67, v68, v69, v70, v71, v72, v73, v74, v75, v76, v77, v78, v79, v80, v81, v82, v83, v84, v85, v86, v87, v88, v89, v90, v91, v92, v93, v94, v95, v96, v97, v98, v99, v100, v101, v102, v103, v104, v105, v106, v107, v108, v109, v110, v111, v112, v113, v114, v115, v116, v117, v118, v119, v120, v121, v122, v123, v124, v125, v126, v127, v128, v129, v130, v131, v132, v133, v134, v135, v136, v137, v138, v139, v140, v141, v142, v143, v144, v145, v146, v147, v148, v149, v150, v151, v152, v153, v154, v155, v156, v157, v158, v159, v160, v161, v162, v163, v164, v165, v166, v167, v168, v169, v170, u171, u172, u173, u174, u175, u176, u177, u178, u179, u180, u181, u182, u183, u184, u185, u186, u187, u188, u189, u190, u191, u192, u193, u194, u195, u196, u197, u198, u199, u200, u201, u202, u203, u204, u205, u206, u207, u208, u209, u210, u211, u212, u213, u214, u215, u216, u217, u218, u219, u220, u221, u222, u223, u224, u225, u226, u227, u228, u229, u230, u231, u232, u233, u234, u235, u236, u237, u238, u239, u240, u241, u242, u243, u244, u245, u246, u247, u248, u249, u250, u251, u252, u253, u254, u255, u256, u257, u258, u259, u260, u261, u262, u263, u264, u265, u266, u267, u268, u269, u270, u271, u272, u273, u274, u275, u276, u277, u278, u279, u280, u281, u282], defers := [] } wx)) :
    c.wp Tryd.prog Q { tmps := #[.slice (some ⟨b, off, none⟩) n cap, u1, u2, u3, u4, u5, u6, u7, u8, u9, u10, .int .i64 k, .string ⟨#[]⟩, .int .i64 0, .int .u8 (k3 : Nat), u15, u16, u17, u18, u19, u20, u21, u22, u23, u24, u25, u26, u27, u28, u29, u30, u31, u32, u33, u34, u35, u36, u37, u38, u39, u40, .int .u8 (k3 : Nat), u42, u43, u44, u45, u46, u47, u48, u49, u50, u51, u52, u53, u54, u55, u56, u57, u58, u59, u60, u61, u62, u63, u64, u65, u66, u67, u68, u69, u70, u71, u72, u73, u74, u75, u76, u77, u78, u79, u80, u81, u82, u83, u84, u85, u86, u87, u88, u89, u90, u91, u92, u93, u94, u95, u96, u97, u98, u99, u100, u101, u102, u103, u104, u105, u106, u107, u108, u109, u110, u111, u112, u113, u114, u115, u116, u117, u118, u119, u120, u121, u122, u123, u124, u125, u126, u127, u128, u129, u130, u131, u132, u133, u134, u135, u136, u137, u138, u139, u140, u141, u142, u143, u144, u145, u146, u147, u148, u149, u150, u151, u152, u153, u154, u155, u156, u157, u158, u159, u160, u161, u162, u163, u164, u165, u166, u167, u168, u169, u170, u171, u172, u173, u174, u175, u176, u177, u178, u179, u180, u181, u182, u183, u184, u185, u186, u187, u188, u189, u190, u191, u192, u193, u194, u195, u196, u197, u198, u199, u200, u201, u202, u203, u204, u205, u206, u207, u208, u209, u210, u211, u212, u213, u214, u215, u216, u217, u218, u219, u220, u221, u222, u223, u224, u225, u226, u227, u228, u229, u230, u231, u232, u233, u234, u235, u236, u237, u238, u239, u240, u241, u242, u243, u244, u245, u246, u247, u248, u249, u250, u251, u252, u253, u254, u255, u256, u257, u258, u259, u260, u261, u262, u263, u264, u265, u266, u267, u268, u269, u270, u271, u272, u273, u274, u275, u276, u277, u278, u279, u280, u281, u282], defers := [] } wr := by
  conv at hc => lhs; whnf
  simp only [Option.some.injEq] at hc
  subst hc
  obtain rfl | rfl | rfl : k3 = 0 ∨ k3 = 1 ∨ k3 = 2 := by omega
  ·
    rw [show ((0 : Nat) : Int) = 0 from rfl]
    go_wp2_with fail
    go_loop [12, 15, 16] (fun wv i _ => NameRel x.text wv i) (fun _ i _ => 40 - (intOf i).toNat)
    case atStart => exact ⟨0, _, by omega, by omega, rfl, rfl, by decide, [], rfl, fun b hb => by simp at hb⟩
    case round =>
      obtain ⟨m, tw, hm40, hms, rfl, rfl, hz, hr⟩ := hrel
      replace hr := Lib.hid hr
      unfold maxLen at hs1
      by_cases h1 : m < x.text.size
      · by_cases h2 : m < 40
        · have j1 : (m : Int) < (x.text.size : Int) := by omega
          have j2 : decide ((m : Int) < 40) = true := by simp; omega
          obtain ⟨q, hq⟩ : ∃ q, Hid (nameB x.text[m] = q) := ⟨_, Lib.hid rfl⟩
          go_upto_region 22 with fail
          go_cut [16, 102] from 60 to 113 (fun _ tb wx => tb = .bool q ∧ wx = wr)
          case first =>
            go_wp2_with fail
            all_goals
              go_meet
              refine ⟨?_, rfl⟩
              rw [← hq.out]
              congr 1
              unfold nameB
              rw [Bool.eq_iff_iff]
              simp
              try omega
          case rest =>
            obtain ⟨rfl, hwx⟩ := hcut
            subst hwx
            cases q
            · go_wp2_with fail
              refine ⟨name_keep h1 h2 hz hr.out, ?_⟩
              simp [intOf]; omega
            · have j3 : ((m : Int) + 1).toNat = m + 1 := by omega
              have j4 : (m : Int) + 1 ≤ (x.text.size : Int) := by omega
              have j5 : (m : Int) ≤ (m : Int) + 1 := by omega
              have j6 : m + 1 ≤ x.text.size := h1
              go_wp2_with fail
              refine ⟨name_add h1 h2 (name_part hq.out) hz hr.out, ?_⟩
              simp [intOf]; omega
        · have j1 : (m : Int) < (x.text.size : Int) := by omega
          have j2 : decide ((m : Int) < 40) = false := by simp; omega
          go_wp2_with fail
          obtain ⟨r, hr1, hr2⟩ := hr.out
          exact hQ.out ⟨tw, 0, rfl, rfl, .inl ⟨rfl, rfl, ⟨119, r, hr1, by decide⟩, fun b hb => by rw [hr1] at hb; rcases List.mem_cons.1 hb with rfl | hb; exact (by decide); exact hr2 b hb⟩, by omega, Below.refl _ _⟩
      · have j1 : decide ((m : Int) < (x.text.size : Int)) = false := by simp; omega
        have j2 : decide (m < x.text.size) = false := by simp; omega
        go_wp2_with fail
        obtain ⟨r, hr1, hr2⟩ := hr.out
        exact hQ.out ⟨tw, 0, rfl, rfl, .inl ⟨rfl, rfl, ⟨119, r, hr1, by decide⟩, fun b hb => by rw [hr1] at hb; rcases List.mem_cons.1 hb with rfl | hb; exact (by decide); exact hr2 b hb⟩, by omega, Below.refl _ _⟩
  ·
    rw [show ((1 : Nat) : Int) = 1 from rfl]
    go_wp2_with fail
    go_loop [12, 13, 17, 18] (fun wv nv i _ => NumRel x.text wv nv i) (fun _ _ i _ => x.text.size - (intOf i).toNat)
    case atStart => exact ⟨0, 0, ⟨#[]⟩, Nat.zero_le _, rfl, rfl, rfl, by decide, rfl, fun b hb => by simp at hb, by simp⟩
    case round =>
      obtain ⟨m, num, tw, hms, rfl, rfl, rfl, hz, hnum, hd, hh⟩ := hrel
      have hnl := numOf_lt _ hd
      rw [← hnum, size_list] at hnl
      have hnb : num < 1000000000 := Nat.lt_of_lt_of_le hnl (Nat.le_trans (Nat.pow_le_pow_right (by omega) hz) (by decide))
      clear hnl
      replace hnum := Lib.hid hnum
      replace hd := Lib.hid hd
      replace hh := Lib.hid hh
      unfold maxLen at hs1
      by_cases h1 : m < x.text.size
      · by_cases h2 : tw.size < 9
        · have j1 : (m : Int) < (x.text.size : Int) := by omega
          have j2 : decide ((tw.size : Int) < 9) = true := by simp; omega
          obtain ⟨q, hq⟩ : ∃ q, Hid (decide ((49 ≤ (x.text[m].toNat : Int) ∧ (x.text[m].toNat : Int) ≤ 57) ∨ ((x.text[m].toNat : Int) = 48 ∧ tw.toList.isEmpty = false)) = q) := ⟨_, Lib.hid rfl⟩
          go_upto_region 29 with fail
          go_cut [18, 151] from 116 to 168 (fun cv tb wx => cv = .int .u8 (x.text[m].toNat : Nat) ∧ tb = .bool q ∧ wx = wr)
          case first =>
            go_wp2_with fail
            all_goals
              go_meet
              refine ⟨by first | rfl | (congr 1; omega), ?_, rfl⟩
              rw [← hq.out]
              congr 1
              rw [Bool.eq_iff_iff]
              simp
              try omega
              try (constructor <;> intro hh1 <;> first | omega | exact .inr ⟨by omega, hh1⟩ | (rcases hh1 with hh1 | hh1; omega; exact hh1.2))
          case rest =>
            obtain ⟨rfl, rfl, hwx⟩ := hcut
            subst hwx
            have j3 : ((m : Int) + 1).toNat = m + 1 := by omega
            have j4 : (m : Int) + 1 ≤ (x.text.size : Int) := by omega
            have j5 : (m : Int) ≤ (m : Int) + 1 := by omega
            have j6 : m + 1 ≤ x.text.size := h1
            cases q
            · go_wp2_with fail
              refine ⟨num_keep h1 h2 hnum.out hd.out hh.out, ?_⟩
              simp [intOf]; omega
            · have hp : (49 ≤ (x.text[m].toNat : Int) ∧ (x.text[m].toNat : Int) ≤ 57) ∨ (x.text[m] = 48 ∧ tw.data.toList ≠ []) := by
                have := of_decide_eq_true hq.out
                rcases this with h | ⟨h, h'⟩
                · exact .inl h
                · exact .inr ⟨by rw [← UInt8.toNat_inj]; simpa using (by omega : x.text[m].toNat = 48), tl_full.1 h'⟩
              have hlo : 48 ≤ (x.text[m].toNat : Int) ∧ (x.text[m].toNat : Int) ≤ 57 := by
                rcases hp with h | ⟨h, -⟩
                · omega
                · rw [h]; decide
              replace hp := Lib.hid hp
              go_wp2_with fail
              refine ⟨num_add h1 h2 hp.out hnum.out hd.out hh.out, ?_⟩
              simp [intOf]; omega
        · have j1 : (m : Int) < (x.text.size : Int) := by omega
          have j2 : decide ((tw.size : Int) < 9) = false := by simp; omega
          have j3 : tw.toList.isEmpty = false := tl_full.2 (fun h => by have := size_list tw; rw [h] at this; simp at this; omega)
          go_wp2_with fail
          exact hQ.out ⟨tw, num, rfl, rfl, .inr (.inl ⟨rfl, hnum.out, tl_full.1 j3, hd.out, by rw [size_list]; exact hz, fun _ => hh.out⟩), by omega, Below.refl _ _⟩
      · have j1 : decide ((m : Int) < (x.text.size : Int)) = false := by simp; omega
        have j2 : decide (m < x.text.size) = false := by simp; omega
        cases j3 : tw.toList.isEmpty with
        | false =>
          go_wp2_with fail
          exact hQ.out ⟨tw, num, rfl, rfl, .inr (.inl ⟨rfl, hnum.out, tl_full.1 j3, hd.out, by rw [size_list]; exact hz, fun _ => hh.out⟩), by omega, Below.refl _ _⟩
        | true =>
          have hn0 : num = 0 := by rw [hnum.out, tl_empty.1 j3]; rfl
          go_wp2_with fail
          exact hQ.out ⟨⟨#[48]⟩, 0, rfl, rfl, .inr (.inl ⟨rfl, rfl, by decide, by decide, by decide, by decide⟩), by decide, Below.refl _ _⟩
  ·
    rw [show ((2 : Nat) : Int) = 2 from rfl]
    obtain ⟨r, hr, hr9⟩ : ∃ r, Hid (x.text.size % 9 = r) ∧ r < 9 := ⟨_, Lib.hid rfl, by omega⟩
    have q1 : ((x.text.size : Int) % 9) = (r : Int) := by have := hr.out; omega
    have q2 : ((r : Int) + 1).toNat = r + 1 := by omega
    have q3 : (r : Int) + 1 ≤ 9 := by omega
    have q4 : (r : Int) ≤ (r : Int) + 1 := by omega
    have q5 : r ≤ r + 1 := by omega
    have q6 : r + 1 ≤ 9 := by omega
    unfold maxLen at hs1
    go_wp2_with fail
    go_quiet (fail)
    go_wp2_with fail
    obtain ⟨c, hc1, hc2⟩ := sign_cut r hr9
    exact hQ.out ⟨_, 0, rfl, rfl, .inr (.inr ⟨rfl, rfl, c, hc1, hc2⟩), by rw [← size_list, hc1]; exact Nat.le_add_left 1 40, below_drawn (Below.refl _ _) _⟩
end Go.Proofs.YtobfcbmphobmfaaDoor
