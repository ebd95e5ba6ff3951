/- First places in a map; rows that are filled. -/
import Derived.Test.YtedleliddhhacaaCWays
import Derived.Test.YtedleliddhhacaaGBackW
import Derived.Deep.CutRange
import Derived.Deep.CutBlock
namespace Go.Proofs.Ytedleliddhhacaa
open Go.RowKit Go.Maps Go.WideMaps

instance memBytes (s : ByteArray) (ls : List ByteArray) : Decidable (s ∈ ls) := @List.instDecidableMemOfLawfulBEq ByteArray instBEqOfDecidableEq inferInstance s ls
def litS (s : ByteArray) : Lit := .string s.data.toList
theorem litS_inj {a b : ByteArray} (h : litS a = litS b) : a = b := by
  unfold litS at h
  simp only [Lit.string.injEq] at h
  exact ByteArray.ext (Array.toList_inj.1 h)
theorem litS_key (a : ByteArray) : WideAt.IsKeyLit (litS a) := trivial
theorem lawS : Keyed Try.prog 9 := string_keyed Try.underlying9
theorem zeroI (w : World) : (zeroValue 3).run Try.prog w = .ok (.int .i64 0) w := by kernel_rfl

/-- A map that tells where each text came first. -/
structure FirstMap (D : DataW Unit) (ls : List ByteArray) : Prop where
  isMap : IsMap D
  has : ∀ s, has D (litS s) = decide (s ∈ ls)
  at_ : ∀ s, s ∈ ls → ∀ z, D.atKey (litS s) z = num (place ls s)
theorem FirstMap.nil : FirstMap (.map []) [] := ⟨isMap_empty, fun s => by simp [Maps.has], fun s h => by cases h⟩
theorem place_snoc {ls : List ByteArray} {l s : ByteArray} (h : s ∈ ls) : place (ls ++ [l]) s = place ls s := by
  unfold place
  rw [List.findIdx_append, if_pos (List.findIdx_lt_length_of_exists ⟨s, h, by simp⟩)]
theorem FirstMap.hit {D : DataW Unit} {ls : List ByteArray} {l : ByteArray} (h : FirstMap D ls) (hl : l ∈ ls) : FirstMap D (ls ++ [l]) := by
  refine ⟨h.isMap, fun s => ?_, fun s hs z => ?_⟩
  · rw [h.has]
    congr 1
    simp
    rintro rfl
    exact hl
  · have hs' : s ∈ ls := by
      rcases List.mem_append.1 hs with h1 | h1
      · exact h1
      · rw [List.mem_singleton.1 h1]; exact hl
    rw [h.at_ s hs' z, place_snoc hs']
theorem FirstMap.miss {D : DataW Unit} {ls : List ByteArray} {l : ByteArray} (h : FirstMap D ls) (hl : l ∉ ls) : FirstMap (D.put (litS l) (num ls.length)) (ls ++ [l]) := by
  refine ⟨h.isMap.put _ _, fun s => ?_, fun s hs z => ?_⟩
  · by_cases hsl : s = l
    · subst hsl
      rw [has_put_same h.isMap (litS_key s)]
      simp
    · rw [has_put_other (fun e => hsl (litS_inj e)), h.has]
      congr 1
      simp [hsl]
  · by_cases hsl : s = l
    · subst hsl
      rw [atKey_put_same h.isMap (litS_key s), place_new hl]
    · have hs' : s ∈ ls := by
        rcases List.mem_append.1 hs with h1 | h1
        · exact h1
        · exact absurd (List.mem_singleton.1 h1) hsl
      rw [atKey_put_other (fun e => hsl (litS_inj e)), h.at_ s hs' z, place_snoc hs']

theorem ownsMap_block {w w' : World} {P : Program} {k : TypeId} {R : Value → Option (DataW Unit × List MemPlace)} {b n : Nat} {D : DataW Unit} (h : w.ownsMap P k R b n D) (hb : w'.heap[b]? = w.heap[b]?) : w'.ownsMap P k R b n D := by
  obtain ⟨es, clock, h1, h2⟩ := h
  exact ⟨es, clock, hb.trans h1, h2⟩

/-- The document's answer to Of: is it one, and the rows of ways. -/
def Fun.labels (d : Fun) : List ByteArray := d.blocks.map Blk.label
def waysL (b : Blk) : List ByteArray := (waysB b).getD []
def okB (ls : List ByteArray) (b : Blk) : Bool := match waysB b with
  | none => false
  | some l => l.all fun s => decide (s ∈ ls)
def ofOk (d : Fun) : Bool := d.blocks.all (okB d.labels)
def rowB (ls : List ByteArray) (b : Blk) : List Int := (waysL b).map fun s => (place ls s : Int)
def rowsF (d : Fun) : List (List Int) := d.blocks.map (rowB d.labels)

/-- Rows, of which k are whole and the next has q. -/
def someRows (R : List (List Int)) (k q : Nat) : List (List Int) := R.mapIdx fun i r => if i < k then r else if i = k then r.take q else []
theorem someRows_len (R : List (List Int)) (k q : Nat) : (someRows R k q).length = R.length := by simp [someRows]
theorem someRows_at {R : List (List Int)} {k q : Nat} {r : List Int} (h : R[k]? = some r) : (someRows R k q)[k]? = some (r.take q) := by
  simp [someRows, h]
theorem someRows_start (R : List (List Int)) : someRows R 0 0 = List.replicate R.length [] := by
  apply List.ext_getElem?
  intro i
  rw [someRows, List.getElem?_mapIdx, List.getElem?_replicate]
  by_cases h : i < R.length
  · rw [List.getElem?_eq_getElem h, if_pos h]
    simp
  · rw [List.getElem?_eq_none (by omega), if_neg h]
    rfl
theorem someRows_next {R : List (List Int)} {k : Nat} {r : List Int} (h : R[k]? = some r) : someRows R k r.length = someRows R (k + 1) 0 := by
  apply List.ext_getElem?
  intro i
  rw [someRows, List.getElem?_mapIdx, someRows, List.getElem?_mapIdx]
  rcases Nat.lt_trichotomy i k with h1 | h1 | h1
  · simp [h1, show i < k + 1 from by omega]
  · subst h1
    simp [h]
  · by_cases h2 : i = k + 1
    · subst h2
      simp [show ¬ k + 1 < k from by omega]
    · simp [show ¬ i < k from by omega, show ¬ i = k from by omega, show ¬ i < k + 1 from by omega, h2]
theorem someRows_push {R : List (List Int)} {k q : Nat} {r : List Int} {x : Int} (h : R[k]? = some r) (hx : r[q]? = some x) : (someRows R k q).set k (r.take q ++ [x]) = someRows R k (q + 1) := by
  apply List.ext_getElem?
  intro i
  have hk := (List.getElem?_eq_some_iff.1 h).1
  by_cases h1 : i = k
  · subst h1
    rw [List.getElem?_set_self (by rw [someRows_len]; exact hk), someRows_at h, take_snoc hx]
  · rw [List.getElem?_set_ne (fun e => h1 e.symm), someRows, List.getElem?_mapIdx, someRows, List.getElem?_mapIdx]
    simp [h1]
theorem someRows_end {R : List (List Int)} : someRows R R.length 0 = R := by
  apply List.ext_getElem?
  intro i
  rw [someRows, List.getElem?_mapIdx]
  by_cases h : i < R.length
  · rw [List.getElem?_eq_getElem h]
    simp [h]
  · rw [List.getElem?_eq_none (by omega)]
    rfl
end Go.Proofs.Ytedleliddhhacaa
