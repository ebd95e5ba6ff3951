/- LaidT, RdK1, RdK2, RdK3, RdK4, RdK5. -/
import Derived.Test.YtgcanabckogmmaaDoorZA
import Derived.Test.YtgcanabckogmmaaDoorRows
import Derived.Test.YtgcanabckogmmaaDoorYK
import Derived.Test.YtgcanabckogmmaaDoorYI
import Derived.Test.YtgcanabckogmmaaDoorYM
import Derived.Lib.LaidTab
import Derived.Deep.CutBlock
import Derived.Deep.RegionHeld3
import Derived.Deep.RegionLaw
import Derived.Deep.AppendLies
namespace Go.Proofs.YtgcanabckogmmaaDoor
set_option linter.unusedVariables false
set_option linter.unusedSimpArgs false
section
def lits64 : DataW Unit → List Value
  | .agg l => l.map fun | .lit (.int k n) => Value.int k n | _ => undef
  | _ => []
noncomputable def lowL : Nat := (World.holding Tryd.prog default ⟨#[], #[], []⟩).heap.size
/-- A variable that holds these cells. -/
noncomputable def putG (h : Array Obj) (g : Nat) (cs : Array Value) : Array Obj := h.modify g fun
  | .cells _ t frozen => .cells cs t frozen
  | o => o
noncomputable def laidWorld (os : Os) : World :=
  let w0 := World.holding Tryd.prog os ⟨#[.cells #[.string ⟨#[105, 110, 118, 97, 108, 105, 100, 32, 115, 121, 110, 116, 97, 120]⟩] 128, .cells #[.string ⟨#[118, 97, 108, 117, 101, 32, 111, 117, 116, 32, 111, 102, 32, 114, 97, 110, 103, 101]⟩] 128], #[], []⟩
  { w0 with heap := putG (putG (putG (putG (putG w0.heap 1 #[.iface 126 (.pointer (some ⟨lowL, 0, none⟩))]) 2 #[.iface 126 (.pointer (some ⟨lowL + 1, 0, none⟩))])
      3 (lits64 Rows.laid_internal_strconv_uint64pow10).toArray) 4 (lits64 Rows.laid_math_bits_deBruijn32tab).toArray) 5 (lits64 Rows.laid_math_bits_deBruijn64tab).toArray }
end
section
open Go.RowKit Go.Maps

abbrev RowK := ByteArray × Nat × Nat × Nat
def cellsR (r : RowK) : List Value := [.string r.1, .int .i64 r.2.1, .int .i64 r.2.2.1, .int .i64 r.2.2.2]
theorem flatR_at : ∀ (l : List RowK) (i : Nat) (t : RowK), l[i]? = some t → ∀ j, j < 4 → (l.flatMap cellsR)[i * 4 + j]? = (cellsR t)[j]?
  | [], i, t, h, j, hj => by simp at h
  | x :: r, 0, t, h, j, hj => by
    simp at h
    subst h
    rw [List.flatMap_cons, List.getElem?_append_left (by simpa [cellsR] using hj), Nat.zero_mul, Nat.zero_add]
  | x :: r, i + 1, t, h, j, hj => by
    rw [List.flatMap_cons, List.getElem?_append_right (by simp [cellsR]; omega)]
    have := flatR_at r i t (by simpa using h) j hj
    rw [← this]
    congr 1
    simp [cellsR]
    omega
theorem flatR_len : ∀ l : List RowK, (l.flatMap cellsR).length = l.length * 4
  | [] => rfl
  | x :: r => by rw [List.flatMap_cons, List.length_append, flatR_len r, List.length_cons, Nat.succ_mul]; simp [cellsR]; omega
def badK : List RowK := [(⟨#[102, 117, 110, 99, 32, 102, 40, 41, 32, 123, 32, 97, 58]⟩, 40, 1, 12), (⟨#[102, 117, 110, 99, 32, 102, 40, 10, 41, 32, 123]⟩, 40, 2, 1), (⟨#[102, 117, 110, 99, 32, 102, 40, 41, 32, 123, 10, 97, 58, 10, 120, 32, 61, 32, 99, 111, 112, 121, 10, 125]⟩, 40, 4, 1), (⟨#[102, 117, 110, 99, 32, 102, 40, 41, 32, 123, 10, 97, 58, 10, 114, 101, 116]⟩, 41, 3, 4), (⟨#[102, 117, 110, 99, 32, 102, 40, 41, 32, 123, 10, 120, 32, 61, 32, 110, 117, 108, 108, 10, 125]⟩, 40, 2, 3), (⟨#[102, 117, 110, 99]⟩, 41, 1, 5), (⟨#[102, 117, 110, 32, 102, 40, 41, 32, 123]⟩, 40, 1, 1), (⟨#[102, 117, 110, 99, 32, 49, 40, 41, 32, 123]⟩, 40, 1, 6), (⟨#[102, 117, 110, 99, 32, 102, 40, 97, 32, 98, 41, 32, 123]⟩, 40, 1, 10), (⟨#[102, 117, 110, 99, 32, 102, 40, 97, 44, 41, 32, 123]⟩, 40, 1, 10), (⟨#[102, 117, 110, 99, 32, 102, 40, 41, 10, 123]⟩, 40, 2, 1), (⟨#[102, 117, 110, 99, 32, 102, 40, 41, 32, 123, 10, 125, 32, 125]⟩, 40, 2, 3), (⟨#[102, 117, 110, 99, 32, 102, 40, 41, 32, 123, 10, 125, 10, 120]⟩, 40, 3, 1), (⟨#[102, 117, 110, 99, 32, 102, 40, 41, 32, 123, 10, 97, 58, 32, 114, 101, 116, 10, 125]⟩, 40, 2, 4), (⟨#[102, 117, 110, 99, 32, 102, 40, 41, 32, 123, 10, 97, 10, 58, 10, 125]⟩, 40, 3, 1), (⟨#[120, 10, 49, 97]⟩, 31, 2, 1), (⟨#[102, 117, 110, 99, 32, 102, 40, 41, 32, 123, 10, 97, 58, 10, 120, 32, 61, 32, 99, 111, 112, 121, 10, 114, 101, 116, 10, 125]⟩, 40, 4, 1), (⟨#[102, 117, 110, 99, 32, 102, 40, 41, 32, 123, 10, 97, 58, 10, 98, 114, 32, 97, 10, 98, 10, 125]⟩, 40, 4, 1), (⟨#[102, 117, 110, 99, 32, 102, 40, 41, 32, 123, 10, 97, 58, 10, 49, 10, 125]⟩, 40, 3, 1), (⟨#[102, 117, 110, 99, 32, 102, 40, 41, 32, 123, 10, 97, 58, 10, 40, 10, 125]⟩, 40, 3, 1)]
def formsK : List ByteArray := [⟨#[120, 32, 61, 32, 97, 108, 108, 111, 99, 97, 32, 121]⟩, ⟨#[120, 32, 61, 32, 109, 97, 108, 108, 111, 99, 32, 40]⟩, ⟨#[120, 32, 61, 32, 110, 117, 108, 108, 32, 121]⟩, ⟨#[120, 32, 61, 32, 97, 100, 100, 114, 32, 49]⟩, ⟨#[120, 32, 61, 32, 99, 111, 112, 121, 32, 49]⟩, ⟨#[120, 32, 61, 32, 108, 111, 97, 100, 32, 41]⟩, ⟨#[120, 32, 61, 32, 102, 105, 101, 108, 100, 32, 121, 32, 122]⟩, ⟨#[120, 32, 61, 32, 112, 104, 105, 32, 121]⟩, ⟨#[120, 32, 61, 32, 112, 104, 105, 32, 91, 93]⟩, ⟨#[120, 32, 61, 32, 112, 104, 105, 32, 91, 97, 32, 98, 93]⟩, ⟨#[120, 32, 61, 32, 112, 104, 105, 32, 91, 97, 58, 32, 98, 32, 99, 93]⟩, ⟨#[120, 32, 61, 32, 112, 104, 105, 32, 91, 97, 58, 32, 98, 44, 93]⟩, ⟨#[120, 32, 61, 32, 112, 104, 105, 32, 91, 97, 58, 32, 49, 93]⟩, ⟨#[120, 32, 61, 32, 99, 97, 108, 108, 32, 49]⟩, ⟨#[120, 32, 61, 32, 99, 97, 108, 108, 32, 102, 32, 97]⟩, ⟨#[120, 32, 61, 32, 99, 97, 108, 108, 32, 102, 40, 97, 32, 98, 41]⟩, ⟨#[120, 32, 61, 32, 105, 99, 97, 108, 108, 32, 102, 40, 44, 41]⟩, ⟨#[120, 32, 61, 32, 102, 111, 111, 32, 121]⟩, ⟨#[120, 32, 61, 32, 49]⟩, ⟨#[99, 97, 108, 108, 32, 102, 32, 97]⟩, ⟨#[105, 99, 97, 108, 108, 32, 49]⟩, ⟨#[115, 116, 111, 114, 101, 32, 97, 32, 98]⟩, ⟨#[115, 116, 111, 114, 101, 32, 97, 44, 32, 49]⟩, ⟨#[98, 114, 32, 97, 32, 49]⟩, ⟨#[98, 114, 32, 97, 32, 98, 32, 99]⟩, ⟨#[103, 111, 116, 111, 32, 49]⟩, ⟨#[103, 111, 116, 111, 32, 97, 32, 98]⟩, ⟨#[114, 101, 116, 32, 49]⟩, ⟨#[114, 101, 116, 32, 97, 32, 98]⟩, ⟨#[102, 111, 111, 32, 98, 97, 114]⟩, ⟨#[102, 111, 111, 32, 40]⟩, ⟨#[120, 32, 61, 32, 114, 101, 116]⟩, ⟨#[120, 32, 58, 32, 121]⟩]
def colsK : List Nat := [12, 12, 10, 10, 10, 10, 13, 9, 10, 12, 15, 15, 13, 10, 12, 14, 13, 5, 5, 8, 7, 9, 10, 6, 8, 6, 8, 5, 7, 5, 5, 5, 5]
def rowK (f : ByteArray) (c : Nat) : RowK := (⟨#[102, 117, 110, 99, 32, 102, 40, 41, 32, 123, 10, 97, 58, 10]⟩ ++ f ++ ⟨#[10, 125]⟩, 40, 3, c)
def moreK : List RowK := List.zipWith rowK formsK colsK
def allK : List RowK := badK ++ moreK
theorem allK_len : allK.length = 53 := rfl
def namesK : List (List UInt8) := [[102, 117, 110, 99, 32, 102, 40, 41, 32, 123, 32, 97, 58], [102, 117, 110, 99, 32, 102, 40, 10, 41, 32, 123], [102, 117, 110, 99, 32, 102, 40, 41, 32, 123, 10, 97, 58, 10, 120, 32, 61, 32, 99, 111, 112, 121, 10, 125], [102, 117, 110, 99, 32, 102, 40, 41, 32, 123, 10, 97, 58, 10, 114, 101, 116], [102, 117, 110, 99, 32, 102, 40, 41, 32, 123, 10, 120, 32, 61, 32, 110, 117, 108, 108, 10, 125], [102, 117, 110, 99], [102, 117, 110, 32, 102, 40, 41, 32, 123], [102, 117, 110, 99, 32, 49, 40, 41, 32, 123], [102, 117, 110, 99, 32, 102, 40, 97, 32, 98, 41, 32, 123], [102, 117, 110, 99, 32, 102, 40, 97, 44, 41, 32, 123], [102, 117, 110, 99, 32, 102, 40, 41, 10, 123], [102, 117, 110, 99, 32, 102, 40, 41, 32, 123, 10, 125, 32, 125], [102, 117, 110, 99, 32, 102, 40, 41, 32, 123, 10, 125, 10, 120], [102, 117, 110, 99, 32, 102, 40, 41, 32, 123, 10, 97, 58, 32, 114, 101, 116, 10, 125], [102, 117, 110, 99, 32, 102, 40, 41, 32, 123, 10, 97, 10, 58, 10, 125], [120, 10, 49, 97], [102, 117, 110, 99, 32, 102, 40, 41, 32, 123, 10, 97, 58, 10, 120, 32, 61, 32, 99, 111, 112, 121, 10, 114, 101, 116, 10, 125], [102, 117, 110, 99, 32, 102, 40, 41, 32, 123, 10, 97, 58, 10, 98, 114, 32, 97, 10, 98, 10, 125], [102, 117, 110, 99, 32, 102, 40, 41, 32, 123, 10, 97, 58, 10, 49, 10, 125], [102, 117, 110, 99, 32, 102, 40, 41, 32, 123, 10, 97, 58, 10, 40, 10, 125], [102, 117, 110, 99, 32, 102, 40, 41, 32, 123, 10, 97, 58, 10, 120, 32, 61, 32, 97, 108, 108, 111, 99, 97, 32, 121, 10, 125], [102, 117, 110, 99, 32, 102, 40, 41, 32, 123, 10, 97, 58, 10, 120, 32, 61, 32, 109, 97, 108, 108, 111, 99, 32, 40, 10, 125], [102, 117, 110, 99, 32, 102, 40, 41, 32, 123, 10, 97, 58, 10, 120, 32, 61, 32, 110, 117, 108, 108, 32, 121, 10, 125], [102, 117, 110, 99, 32, 102, 40, 41, 32, 123, 10, 97, 58, 10, 120, 32, 61, 32, 97, 100, 100, 114, 32, 49, 10, 125], [102, 117, 110, 99, 32, 102, 40, 41, 32, 123, 10, 97, 58, 10, 120, 32, 61, 32, 99, 111, 112, 121, 32, 49, 10, 125], [102, 117, 110, 99, 32, 102, 40, 41, 32, 123, 10, 97, 58, 10, 120, 32, 61, 32, 108, 111, 97, 100, 32, 41, 10, 125], [102, 117, 110, 99, 32, 102, 40, 41, 32, 123, 10, 97, 58, 10, 120, 32, 61, 32, 102, 105, 101, 108, 100, 32, 121, 32, 122, 10, 125], [102, 117, 110, 99, 32, 102, 40, 41, 32, 123, 10, 97, 58, 10, 120, 32, 61, 32, 112, 104, 105, 32, 121, 10, 125], [102, 117, 110, 99, 32, 102, 40, 41, 32, 123, 10, 97, 58, 10, 120, 32, 61, 32, 112, 104, 105, 32, 91, 93, 10, 125], [102, 117, 110, 99, 32, 102, 40, 41, 32, 123, 10, 97, 58, 10, 120, 32, 61, 32, 112, 104, 105, 32, 91, 97, 32, 98, 93, 10, 125], [102, 117, 110, 99, 32, 102, 40, 41, 32, 123, 10, 97, 58, 10, 120, 32, 61, 32, 112, 104, 105, 32, 91, 97, 58, 32, 98, 32, 99, 93, 10, 125], [102, 117, 110, 99, 32, 102, 40, 41, 32, 123, 10, 97, 58, 10, 120, 32, 61, 32, 112, 104, 105, 32, 91, 97, 58, 32, 98, 44, 93, 10, 125], [102, 117, 110, 99, 32, 102, 40, 41, 32, 123, 10, 97, 58, 10, 120, 32, 61, 32, 112, 104, 105, 32, 91, 97, 58, 32, 49, 93, 10, 125], [102, 117, 110, 99, 32, 102, 40, 41, 32, 123, 10, 97, 58, 10, 120, 32, 61, 32, 99, 97, 108, 108, 32, 49, 10, 125], [102, 117, 110, 99, 32, 102, 40, 41, 32, 123, 10, 97, 58, 10, 120, 32, 61, 32, 99, 97, 108, 108, 32, 102, 32, 97, 10, 125], [102, 117, 110, 99, 32, 102, 40, 41, 32, 123, 10, 97, 58, 10, 120, 32, 61, 32, 99, 97, 108, 108, 32, 102, 40, 97, 32, 98, 41, 10, 125], [102, 117, 110, 99, 32, 102, 40, 41, 32, 123, 10, 97, 58, 10, 120, 32, 61, 32, 105, 99, 97, 108, 108, 32, 102, 40, 44, 41, 10, 125], [102, 117, 110, 99, 32, 102, 40, 41, 32, 123, 10, 97, 58, 10, 120, 32, 61, 32, 102, 111, 111, 32, 121, 10, 125], [102, 117, 110, 99, 32, 102, 40, 41, 32, 123, 10, 97, 58, 10, 120, 32, 61, 32, 49, 10, 125], [102, 117, 110, 99, 32, 102, 40, 41, 32, 123, 10, 97, 58, 10, 99, 97, 108, 108, 32, 102, 32, 97, 10, 125], [102, 117, 110, 99, 32, 102, 40, 41, 32, 123, 10, 97, 58, 10, 105, 99, 97, 108, 108, 32, 49, 10, 125], [102, 117, 110, 99, 32, 102, 40, 41, 32, 123, 10, 97, 58, 10, 115, 116, 111, 114, 101, 32, 97, 32, 98, 10, 125], [102, 117, 110, 99, 32, 102, 40, 41, 32, 123, 10, 97, 58, 10, 115, 116, 111, 114, 101, 32, 97, 44, 32, 49, 10, 125], [102, 117, 110, 99, 32, 102, 40, 41, 32, 123, 10, 97, 58, 10, 98, 114, 32, 97, 32, 49, 10, 125], [102, 117, 110, 99, 32, 102, 40, 41, 32, 123, 10, 97, 58, 10, 98, 114, 32, 97, 32, 98, 32, 99, 10, 125], [102, 117, 110, 99, 32, 102, 40, 41, 32, 123, 10, 97, 58, 10, 103, 111, 116, 111, 32, 49, 10, 125], [102, 117, 110, 99, 32, 102, 40, 41, 32, 123, 10, 97, 58, 10, 103, 111, 116, 111, 32, 97, 32, 98, 10, 125], [102, 117, 110, 99, 32, 102, 40, 41, 32, 123, 10, 97, 58, 10, 114, 101, 116, 32, 49, 10, 125], [102, 117, 110, 99, 32, 102, 40, 41, 32, 123, 10, 97, 58, 10, 114, 101, 116, 32, 97, 32, 98, 10, 125], [102, 117, 110, 99, 32, 102, 40, 41, 32, 123, 10, 97, 58, 10, 102, 111, 111, 32, 98, 97, 114, 10, 125], [102, 117, 110, 99, 32, 102, 40, 41, 32, 123, 10, 97, 58, 10, 102, 111, 111, 32, 40, 10, 125], [102, 117, 110, 99, 32, 102, 40, 41, 32, 123, 10, 97, 58, 10, 120, 32, 61, 32, 114, 101, 116, 10, 125], [102, 117, 110, 99, 32, 102, 40, 41, 32, 123, 10, 97, 58, 10, 120, 32, 58, 32, 121, 10, 125]]
theorem allK_text : allK.map (fun r => r.1.data.toList) = namesK := by kernel_rfl
theorem allK_bad : namesK.map parseL = allK.map fun r => .error (r.2.2.1, r.2.2.2, r.2.1) := by kernel_rfl
theorem allK_at {i : Nat} {r : RowK} (h : allK[i]? = some r) : parseL r.1.data.toList = .error (r.2.2.1, r.2.2.2, r.2.1) ∧ r.1.size ≤ 1000 := by
  have h1 : (allK.map (fun r => r.1.data.toList))[i]? = some r.1.data.toList := by rw [List.getElem?_map, h]; rfl
  have h2 : (namesK.map parseL)[i]? = some (parseL r.1.data.toList) := by rw [List.getElem?_map, ← allK_text, h1]; rfl
  rw [allK_bad, List.getElem?_map, h] at h2
  refine ⟨(Option.some.inj h2).symm, ?_⟩
  have h3 : ∀ l ∈ namesK, l.length ≤ 1000 := by decide
  have := h3 r.1.data.toList (by rw [← allK_text]; exact List.mem_map_of_mem (List.mem_of_getElem? h))
  simpa using this
def bigB : List UInt8 := [102, 117, 110, 99, 32, 109, 97, 105, 110, 40, 112, 44, 32, 113, 41, 32, 123, 10, 97, 58, 10, 120, 32, 61, 32, 97, 108, 108, 111, 99, 97, 32, 50, 10, 121, 32, 61, 32, 109, 97, 108, 108, 111, 99, 32, 49, 10, 122, 32, 61, 32, 110, 117, 108, 108, 10, 102, 32, 61, 32, 97, 100, 100, 114, 32, 109, 97, 105, 110, 10, 99, 32, 61, 32, 99, 111, 112, 121, 32, 110, 117, 108, 108, 10, 98, 58, 10, 104, 32, 61, 32, 112, 104, 105, 32, 91, 97, 58, 32, 120, 44, 32, 98, 58, 32, 110, 117, 108, 108, 93, 10, 100, 32, 61, 32, 102, 105, 101, 108, 100, 32, 120, 32, 49, 10, 108, 32, 61, 32, 108, 111, 97, 100, 32, 100, 10, 115, 116, 111, 114, 101, 32, 120, 44, 32, 108, 10, 114, 32, 61, 32, 99, 97, 108, 108, 32, 109, 97, 105, 110, 40, 112, 44, 32, 120, 41, 10, 99, 97, 108, 108, 32, 109, 97, 105, 110, 40, 41, 10, 105, 32, 61, 32, 105, 99, 97, 108, 108, 32, 102, 40, 110, 117, 108, 108, 41, 10, 105, 99, 97, 108, 108, 32, 102, 40, 97, 44, 32, 98, 41, 10, 98, 114, 32, 97, 32, 98, 10, 114, 101, 116, 32, 61, 32, 99, 111, 112, 121, 32, 114, 101, 116, 10, 103, 111, 116, 111, 32, 61, 32, 110, 117, 108, 108, 10, 103, 111, 116, 111, 32, 97, 10, 114, 101, 116, 32, 120, 10, 114, 101, 116, 10, 114, 101, 116, 58, 10, 125, 10, 102, 117, 110, 99, 32, 110, 117, 108, 108, 40, 41, 32, 123, 10, 125, 10]
def bigP : List Fun := [⟨⟨#[109, 97, 105, 110]⟩, [⟨#[112]⟩, ⟨#[113]⟩], [⟨⟨#[97]⟩, [⟨1, ⟨#[120]⟩, ⟨#[]⟩, ⟨#[]⟩, 2, ⟨#[]⟩, [], []⟩, ⟨2, ⟨#[121]⟩, ⟨#[]⟩, ⟨#[]⟩, 1, ⟨#[]⟩, [], []⟩, ⟨3, ⟨#[122]⟩, ⟨#[]⟩, ⟨#[]⟩, 0, ⟨#[]⟩, [], []⟩, ⟨4, ⟨#[102]⟩, ⟨#[]⟩, ⟨#[]⟩, 0, ⟨#[109, 97, 105, 110]⟩, [], []⟩, ⟨5, ⟨#[99]⟩, ⟨#[110, 117, 108, 108]⟩, ⟨#[]⟩, 0, ⟨#[]⟩, [], []⟩]⟩, ⟨⟨#[98]⟩, [⟨6, ⟨#[104]⟩, ⟨#[]⟩, ⟨#[]⟩, 0, ⟨#[]⟩, [⟨#[120]⟩, ⟨#[110, 117, 108, 108]⟩], [⟨#[97]⟩, ⟨#[98]⟩]⟩, ⟨7, ⟨#[100]⟩, ⟨#[120]⟩, ⟨#[]⟩, 1, ⟨#[]⟩, [], []⟩, ⟨8, ⟨#[108]⟩, ⟨#[100]⟩, ⟨#[]⟩, 0, ⟨#[]⟩, [], []⟩, ⟨9, ⟨#[]⟩, ⟨#[120]⟩, ⟨#[108]⟩, 0, ⟨#[]⟩, [], []⟩, ⟨10, ⟨#[114]⟩, ⟨#[]⟩, ⟨#[]⟩, 0, ⟨#[109, 97, 105, 110]⟩, [⟨#[112]⟩, ⟨#[120]⟩], []⟩, ⟨10, ⟨#[]⟩, ⟨#[]⟩, ⟨#[]⟩, 0, ⟨#[109, 97, 105, 110]⟩, [], []⟩, ⟨11, ⟨#[105]⟩, ⟨#[102]⟩, ⟨#[]⟩, 0, ⟨#[]⟩, [⟨#[110, 117, 108, 108]⟩], []⟩, ⟨11, ⟨#[]⟩, ⟨#[102]⟩, ⟨#[]⟩, 0, ⟨#[]⟩, [⟨#[97]⟩, ⟨#[98]⟩], []⟩, ⟨12, ⟨#[]⟩, ⟨#[]⟩, ⟨#[]⟩, 0, ⟨#[]⟩, [], [⟨#[97]⟩, ⟨#[98]⟩]⟩, ⟨5, ⟨#[114, 101, 116]⟩, ⟨#[114, 101, 116]⟩, ⟨#[]⟩, 0, ⟨#[]⟩, [], []⟩, ⟨3, ⟨#[103, 111, 116, 111]⟩, ⟨#[]⟩, ⟨#[]⟩, 0, ⟨#[]⟩, [], []⟩, ⟨13, ⟨#[]⟩, ⟨#[]⟩, ⟨#[]⟩, 0, ⟨#[]⟩, [], [⟨#[97]⟩]⟩, ⟨14, ⟨#[]⟩, ⟨#[120]⟩, ⟨#[]⟩, 0, ⟨#[]⟩, [], []⟩, ⟨14, ⟨#[]⟩, ⟨#[]⟩, ⟨#[]⟩, 0, ⟨#[]⟩, [], []⟩]⟩, ⟨⟨#[114, 101, 116]⟩, []⟩]⟩, ⟨⟨#[110, 117, 108, 108]⟩, [], []⟩]
theorem big_parse : parseL bigB = .ok bigP := by kernel_rfl
def smallB : List UInt8 := [32, 59, 32, 110, 111, 116, 104, 105, 110, 103, 10]
theorem small_parse : parseL smallB = .ok [] := by kernel_rfl
end
section
open Go.RowKit Go.Maps Go.Shelf
attribute [local go_sem] Oper.semAt_some

theorem infoRow : (Tryd.prog.info? 51).map (fun i => (i.zero, i.size, i.bytes)) = some (some (.agg #[.string ⟨#[]⟩, .int .i64 0, .int .i64 0, .int .i64 0]), 4, 40) := by kernel_rfl
theorem moreK_take {k : Nat} {f : ByteArray} {c : Nat} (hf : formsK[k]? = some f) (hc : colsK[k]? = some c) : (badK ++ moreK.take (k + 1)).flatMap cellsR = (badK ++ moreK.take k).flatMap cellsR ++ [.string (⟨#[102, 117, 110, 99, 32, 102, 40, 41, 32, 123, 10, 97, 58, 10]⟩ ++ f ++ ⟨#[10, 125]⟩), .int .i64 40, .int .i64 3, .int .i64 c] := by
  have h : moreK[k]? = some (rowK f c) := by unfold moreK; rw [List.getElem?_zipWith, hf, hc]
  rw [List.take_add_one, h, ← List.append_assoc, List.flatMap_append]
  rfl
theorem forms_size {f : ByteArray} (h : f ∈ formsK) : f.size ≤ 100 := by
  have : ∀ f ∈ formsK, f.size ≤ 100 := by decide
  exact this f h
set_option maxRecDepth 20000 in
set_option maxHeartbeats 4000000 in
theorem known0 {c : Code} (hc : Func.blockOf Tryd.f7 0 = some c) {Q : Exit → Act → World → Prop} {w : World} {B g0 b2 b3 : Nat} {u0 u5 u6 u7 u8 u9 u10 u11 u12 u13 u14 u15 u16 u17 u18 u19 u20 u21 u22 u23 u24 u25 u26 u27 u28 u29 u30 u31 u32 u33 u34 u35 u36 u37 u38 u39 u40 u41 u42 u43 u44 u45 u46 u47 u48 u49 u50 u51 u52 u53 u54 u55 u56 u57 u58 u59 u60 u61 u62 u63 u64 u65 u66 u67 u68 u69 u70 u71 u72 u73 u74 u75 u76 u77 u78 u79 u80 u81 u82 u83 u84 u85 u86 u87 u88 u89 u90 u91 u92 u93 u94 u95 u96 u97 u98 u99 u100 u101 u102 u103 u104 u105 u106 u107 u108 u109 u110 u111 u112 u113 u114 u115 u116 u117 u118 u119 u120 u121 u122 u123 u124 u125 u126 u127 u128 u129 u130 u131 u132 u133 u134 u135 u136 u137 u138 u139 u140 u141 u142 u143 u144 u145 u146 u147 u148 u149 u150 u151 u152 u153 u154 u155 u156 u157 u158 u159 u160 u161 u162 u163 u164 u165 u166 u167 u168 u169 u170 u171 u172 u173 u174 u175 u176 u177 u178 u179 u180 u181 u182 u183 u184 u185 u186 u187 u188 u189 u190 u191 u192 u193 u194 u195 u196 u197 u198 u199 u200 u201 u202 u203 : Value}
    (hrow : w.ownsRow B 51 4 (.slice (some ⟨g0, 0, none⟩) 20 20) 20 (badK.flatMap cellsR)) (h2 : w.heap[b2]? = some (.cells (formsK.map Value.string).toArray 9 (0, 0))) (h3 : w.heap[b3]? = some (.cells (colsK.map fun c : Nat => Value.int .i64 c).toArray 3 (0, 0))) (n2 : b2 ≠ g0) (n3 : b3 ≠ g0) (hBw : B ≤ w.heap.size) (hPn : ∀ {x : List PanicEntry} {a a1 : Act} {w : World}, Q (.panic x) a w → a.defers = a1.defers → Q (.panic x) a1 w)
    (hQ : Hid (∀ {wx : World} {v1 v4 v42 v43 v44 v45 v46 v47 v48 v49 v50 v51 v52 v53 v54 v55 v56 v57 v58 v59 v60 v61 : Value}, (∃ a c, v1 = .slice a 53 c ∧ wx.ownsRow B 51 4 (.slice a 53 c) 53 (allK.flatMap cellsR) ∧ Touch w wx (fun k => k = g0)) → Q .normal { tmps := #[u0, v1, .slice (some ⟨b2, 0, none⟩) 33 33, .slice (some ⟨b3, 0, none⟩) 33 33, v4, u5, u6, u7, u8, u9, u10, u11, u12, u13, u14, u15, u16, u17, u18, u19, u20, u21, u22, u23, u24, u25, u26, u27, u28, u29, u30, u31, u32, u33, u34, u35, u36, u37, u38, u39, u40, u41, v42, v43, v44, v45, v46, v47, v48, v49, v50, v51, v52, v53, v54, v55, v56, v57, v58, v59, v60, v61, u62, u63, u64, u65, u66, u67, u68, u69, u70, u71, u72, u73, u74, u75, u76, u77, u78, u79, u80, u81, u82, u83, u84, u85, u86, u87, u88, u89, u90, u91, u92, u93, u94, u95, u96, u97, u98, u99, u100, u101, u102, u103, u104, u105, u106, u107, u108, u109, u110, u111, u112, u113, u114, u115, u116, u117, u118, u119, u120, u121, u122, u123, u124, u125, u126, u127, u128, u129, u130, u131, u132, u133, u134, u135, u136, u137, u138, u139, u140, u141, u142, u143, u144, u145, u146, u147, u148, u149, u150, u151, u152, u153, u154, u155, u156, u157, u158, u159, u160, u161, u162, u163, u164, u165, u166, u167, u168, u169, u170, u171, u172, u173, u174, u175, u176, u177, u178, u179, u180, u181, u182, u183, u184, u185, u186, u187, u188, u189, u190, u191, u192, u193, u194, u195, u196, u197, u198, u199, u200, u201, u202, u203], defers := [] } wx)) :
    c.wp Tryd.prog Q { tmps := #[u0, .slice (some ⟨g0, 0, none⟩) 20 20, .slice (some ⟨b2, 0, none⟩) 33 33, .slice (some ⟨b3, 0, none⟩) 33 33, .int .i64 0, u5, u6, u7, u8, u9, u10, u11, u12, u13, u14, u15, u16, u17, u18, u19, u20, u21, u22, u23, u24, u25, u26, u27, u28, u29, u30, u31, u32, u33, u34, u35, u36, u37, u38, u39, u40, u41, u42, u43, u44, u45, u46, u47, u48, u49, u50, u51, u52, u53, u54, u55, u56, u57, u58, u59, u60, u61, u62, u63, u64, u65, u66, u67, u68, u69, u70, u71, u72, u73, u74, u75, u76, u77, u78, u79, u80, u81, u82, u83, u84, u85, u86, u87, u88, u89, u90, u91, u92, u93, u94, u95, u96, u97, u98, u99, u100, u101, u102, u103, u104, u105, u106, u107, u108, u109, u110, u111, u112, u113, u114, u115, u116, u117, u118, u119, u120, u121, u122, u123, u124, u125, u126, u127, u128, u129, u130, u131, u132, u133, u134, u135, u136, u137, u138, u139, u140, u141, u142, u143, u144, u145, u146, u147, u148, u149, u150, u151, u152, u153, u154, u155, u156, u157, u158, u159, u160, u161, u162, u163, u164, u165, u166, u167, u168, u169, u170, u171, u172, u173, u174, u175, u176, u177, u178, u179, u180, u181, u182, u183, u184, u185, u186, u187, u188, u189, u190, u191, u192, u193, u194, u195, u196, u197, u198, u199, u200, u201, u202, u203], defers := [] } w := by
  conv at hc => lhs; whnf
  simp only [Option.some.injEq] at hc
  subst hc
  obtain ⟨i0, hi0, hz0, hz1, hz2⟩ := info_parts infoRow
  go_wp2_with fail
  go_loopw [1, 4] (fun v i wr => ∃ (k : Nat) (av : Option Addr) (cv : Nat), k ≤ 33 ∧ i = .int .i64 k ∧ v = .slice av (20 + k) cv ∧ Hid (wr.ownsRow B 51 4 v (20 + k) ((badK ++ moreK.take k).flatMap cellsR) ∧ Touch w wr (fun k => k = g0) ∧ ∀ g, v.ownBlock = some g → g = g0 ∨ w.heap.size ≤ g)) (fun _ i _ => 33 - (intOf i).toNat)
  case atStart => exact ⟨0, some ⟨g0, 0, none⟩, 20, Nat.zero_le _, rfl, rfl, Lib.hid ⟨by rw [List.take_zero, List.append_nil]; exact hrow, Touch.refl _ _, fun g hg => .inl (by simp [Value.ownBlock] at hg; exact hg.symm)⟩⟩
  case round =>
    obtain ⟨k, av, cv, hk, rfl, rfl, hG⟩ := hrel
    by_cases hlt : k < 33
    · have i1 : (k : Int) < 33 := by omega
      obtain ⟨f, hf⟩ : ∃ f, formsK[k]? = some f := ⟨_, List.getElem?_eq_getElem (by have : formsK.length = 33 := rfl; omega)⟩
      obtain ⟨c, hc⟩ : ∃ c, colsK[k]? = some c := ⟨_, List.getElem?_eq_getElem (by have : colsK.length = 33 := rfl; omega)⟩
      have hT := hG.out.2.1
      have c2 : wr.cell? ⟨b2, k, none⟩ = some (.string f) := by
        rw [blk_cell ((hT.block b2 (Array.getElem?_eq_some_iff.1 h2).1 n2).trans h2)]
        simp [hf]
      have c3 : wr.cell? ⟨b3, k, none⟩ = some (.int .i64 c) := by
        rw [blk_cell ((hT.block b3 (Array.getElem?_eq_some_iff.1 h3).1 n3).trans h3)]
        simp [hc]
      have l2 : b2 < wr.heap.size := Nat.lt_of_lt_of_le (Array.getElem?_eq_some_iff.1 h2).1 hT.size
      have l3 : b3 < wr.heap.size := Nat.lt_of_lt_of_le (Array.getElem?_eq_some_iff.1 h3).1 hT.size
      have hB2 : B ≤ wr.heap.size := by have := hT.size; omega
      have hCB := Lib.hid (fun (w' : World) (hb : Below wr.heap.size wr w') => (⟨(hb.cell (p := ⟨b2, k, none⟩) l2).trans c2, (hb.cell (p := ⟨b3, k, none⟩) l3).trans c3⟩ : w'.cell? ⟨b2, k, none⟩ = some (.string f) ∧ w'.cell? ⟨b3, k, none⟩ = some (.int .i64 c)))
      have hC := hCB.out wr.drew (Below.refl _ _).drew
      have hown2 := Lib.hid (ownsRow_touch hG.out.1 (((Touch.refl wr (fun _ => False)).drew).alloc (.cells #[.string (⟨#[102, 117, 110, 99, 32, 102, 40, 41, 32, 123, 10, 97, 58, 10]⟩ ++ f ++ ⟨#[10, 125]⟩), .int .i64 40, .int .i64 3, .int .i64 c] 51)) (fun _ _ e => e))
      have hCF := Lib.hid (fun (w' : World) (t : Touch wr w' (fun j => (Value.slice av (20 + k) cv).ownBlock = some j)) => (⟨by
        rw [blk_cell ((t.block b2 l2 (fun e => by rcases hG.out.2.2 b2 e with h | h; exact n2 h; have := (Array.getElem?_eq_some_iff.1 h2).1; omega)).trans ((hT.block b2 (Array.getElem?_eq_some_iff.1 h2).1 n2).trans h2))]
        simp [hf], by
        rw [blk_cell ((t.block b3 l3 (fun e => by rcases hG.out.2.2 b3 e with h | h; exact n3 h; have := (Array.getElem?_eq_some_iff.1 h3).1; omega)).trans ((hT.block b3 (Array.getElem?_eq_some_iff.1 h3).1 n3).trans h3))]
        simp [hc]⟩ : w'.cell? ⟨b2, k, none⟩ = some (.string f) ∧ w'.cell? ⟨b3, k, none⟩ = some (.int .i64 c)))
      have hfs := forms_size (List.mem_of_getElem? hf)
      have o1 : ¬9223372036854775807 < 14 + f.size := by omega
      have o2 : ¬9223372036854775807 < 14 + f.size + 2 := by omega
      replace hf := Lib.hid hf
      replace hc := Lib.hid hc
      clear hT c2 c3
      go_upto_region 7 with fail
      refine wp_region_held_drew (S := (fun w' => w'.cell? ⟨b2, k, none⟩ = some (.string f) ∧ w'.cell? ⟨b3, k, none⟩ = some (.int .i64 c))) (by kernel_rfl) hC (fun hHeld => ?_)
      clear hHeld
      refine wpAnyH_take (i := 0) (oi := (Oper.mk (some 48) (Op.move (Operand.tmp 1)) 52 "outright.go:116" #[] none)) (v := ?_) rfl (by kernel_rfl) (by kernel_rfl) (by kernel_rfl) (fun _ _ _ h => hPn h rfl) (Or.inl ⟨by rfl, ?_⟩) hC ?_
      rotate_left
      · (intro w hSw; (try dsimp only at hSw); go_simp; try with_reducible rfl)
      try simp only [Act.put, List.setIfInBounds_toArray, List.set_cons_zero, List.set_cons_succ]
      refine wpAnyH_take (i := 1) (oi := (Oper.mk (some 49) (Op.move (Operand.tmp 2)) 39 "outright.go:116" #[] none)) (v := ?_) rfl (by kernel_rfl) (by kernel_rfl) (by kernel_rfl) (fun _ _ _ h => hPn h rfl) (Or.inl ⟨by rfl, ?_⟩) hC ?_
      rotate_left
      · (intro w hSw; (try dsimp only at hSw); go_simp; try with_reducible rfl)
      try simp only [Act.put, List.setIfInBounds_toArray, List.set_cons_zero, List.set_cons_succ]
      refine wpAnyH_take (i := 2) (oi := (Oper.mk (some 50) (Op.move (Operand.tmp 4)) 3 "outright.go:116" #[] none)) (v := ?_) rfl (by kernel_rfl) (by kernel_rfl) (by kernel_rfl) (fun _ _ _ h => hPn h rfl) (Or.inl ⟨by rfl, ?_⟩) hC ?_
      rotate_left
      · (intro w hSw; (try dsimp only at hSw); go_simp; try with_reducible rfl)
      try simp only [Act.put, List.setIfInBounds_toArray, List.set_cons_zero, List.set_cons_succ]
      refine wpAnyH_take (i := 3) (oi := (Oper.mk (some 51) (Op.indexAddr 39 (Operand.tmp 49) (Operand.tmp 50)) 0 "outright.go:116" #[(Edge.mk 1 Ground.data), (Edge.mk 2 Ground.data)] none)) (v := ?_) rfl (by kernel_rfl) (by kernel_rfl) (by kernel_rfl) (fun _ _ _ h => hPn h rfl) (Or.inl ⟨by rfl, ?_⟩) hC ?_
      rotate_left
      · (intro w hSw; (try dsimp only at hSw); go_simp; try with_reducible rfl)
      try simp only [Act.put, List.setIfInBounds_toArray, List.set_cons_zero, List.set_cons_succ]
      refine wpAnyH_take (i := 4) (oi := (Oper.mk (some 52) (Op.load 9 (Operand.tmp 51)) 9 "outright.go:116" #[(Edge.mk 3 Ground.data)] none)) (v := ?_) rfl (by kernel_rfl) (by kernel_rfl) (by kernel_rfl) (fun _ _ _ h => hPn h rfl) (Or.inl ⟨by rfl, ?_⟩) hC ?_
      rotate_left
      · (intro w hSw; (try dsimp only at hSw); go_simp; try with_reducible rfl)
      try simp only [Act.put, List.setIfInBounds_toArray, List.set_cons_zero, List.set_cons_succ]
      refine wpAnyH_take (i := 5) (oi := (Oper.mk (some 53) (Op.binOp BinOp.add 9 (Operand.const (Value.string (ByteArray.mk #[102, 117, 110, 99, 32, 102, 40, 41, 32, 123, 10, 97, 58, 10]))) (Operand.tmp 52) 9) 9 "outright.go:116" #[(Edge.mk 4 Ground.data)] none)) (v := ?_) rfl (by kernel_rfl) (by kernel_rfl) (by kernel_rfl) (fun _ _ _ h => hPn h rfl) (Or.inl ⟨by rfl, ?_⟩) hC ?_
      rotate_left
      · (intro w hSw; (try dsimp only at hSw); go_simp; try with_reducible rfl)
      try simp only [Act.put, List.setIfInBounds_toArray, List.set_cons_zero, List.set_cons_succ]
      refine wpAnyH_take (i := 6) (oi := (Oper.mk (some 54) (Op.binOp BinOp.add 9 (Operand.tmp 53) (Operand.const (Value.string (ByteArray.mk #[10, 125]))) 9) 9 "outright.go:116" #[(Edge.mk 5 Ground.data)] none)) (v := ?_) rfl (by kernel_rfl) (by kernel_rfl) (by kernel_rfl) (fun _ _ _ h => hPn h rfl) (Or.inl ⟨by rfl, ?_⟩) hC ?_
      rotate_left
      · (intro w hSw; (try dsimp only at hSw); go_simp; try with_reducible rfl)
      try simp only [Act.put, List.setIfInBounds_toArray, List.set_cons_zero, List.set_cons_succ]
      refine wpAnyH_take (i := 7) (oi := (Oper.mk (some 55) (Op.move (Operand.tmp 3)) 53 "outright.go:116" #[] none)) (v := ?_) rfl (by kernel_rfl) (by kernel_rfl) (by kernel_rfl) (fun _ _ _ h => hPn h rfl) (Or.inl ⟨by rfl, ?_⟩) hC ?_
      rotate_left
      · (intro w hSw; (try dsimp only at hSw); go_simp; try with_reducible rfl)
      try simp only [Act.put, List.setIfInBounds_toArray, List.set_cons_zero, List.set_cons_succ]
      refine wpAnyH_take (i := 8) (oi := (Oper.mk (some 56) (Op.move (Operand.tmp 4)) 3 "outright.go:116" #[] none)) (v := ?_) rfl (by kernel_rfl) (by kernel_rfl) (by kernel_rfl) (fun _ _ _ h => hPn h rfl) (Or.inl ⟨by rfl, ?_⟩) hC ?_
      rotate_left
      · (intro w hSw; (try dsimp only at hSw); go_simp; try with_reducible rfl)
      try simp only [Act.put, List.setIfInBounds_toArray, List.set_cons_zero, List.set_cons_succ]
      refine wpAnyH_take (i := 9) (oi := (Oper.mk (some 57) (Op.indexAddr 53 (Operand.tmp 55) (Operand.tmp 56)) 0 "outright.go:116" #[(Edge.mk 7 Ground.data), (Edge.mk 8 Ground.data)] none)) (v := ?_) rfl (by kernel_rfl) (by kernel_rfl) (by kernel_rfl) (fun _ _ _ h => hPn h rfl) (Or.inl ⟨by rfl, ?_⟩) hC ?_
      rotate_left
      · (intro w hSw; (try dsimp only at hSw); go_simp; try with_reducible rfl)
      try simp only [Act.put, List.setIfInBounds_toArray, List.set_cons_zero, List.set_cons_succ]
      refine wpAnyH_take (i := 10) (oi := (Oper.mk (some 58) (Op.load 3 (Operand.tmp 57)) 3 "outright.go:116" #[(Edge.mk 9 Ground.data)] none)) (v := ?_) rfl (by kernel_rfl) (by kernel_rfl) (by kernel_rfl) (fun _ _ _ h => hPn h rfl) (Or.inl ⟨by rfl, ?_⟩) hC ?_
      rotate_left
      · (intro w hSw; (try dsimp only at hSw); go_simp; try with_reducible rfl)
      try simp only [Act.put, List.setIfInBounds_toArray, List.set_cons_zero, List.set_cons_succ]
      refine wpAnyH_take (i := 11) (oi := (Oper.mk (some 59) (Op.build 51 #[(0, (Operand.tmp 54)), (1, (Operand.const (Value.int IntKind.i64 40))), (2, (Operand.const (Value.int IntKind.i64 3))), (3, (Operand.tmp 58))]) 51 "outright.go:116" #[(Edge.mk 6 Ground.data), (Edge.mk 10 Ground.data)] none)) (v := ?_) rfl (by kernel_rfl) (by kernel_rfl) (by kernel_rfl) (fun _ _ _ h => hPn h rfl) (Or.inl ⟨by rfl, ?_⟩) hC ?_
      rotate_left
      · (intro w hSw; (try dsimp only at hSw); go_simp; try with_reducible rfl)
      try simp only [Act.put, List.setIfInBounds_toArray, List.set_cons_zero, List.set_cons_succ]
      refine wpAnyH_ready (rs := [12]) (by kernel_rfl) (by simp) (AllReadyH.cons (o := (Oper.mk (some 60) (Op.buildSlice 52 1 #[(0, (Operand.tmp 59))]) 52 "outright.go:116" #[(Edge.mk 11 Ground.data)] none)) rfl (fun K hK => ?_) AllReadyH.nil)
      go_simp
      replace hC := hCB.out (wr.drew.alloc (.cells #[.string (⟨#[102, 117, 110, 99, 32, 102, 40, 41, 32, 123, 10, 97, 58, 10]⟩ ++ f ++ ⟨#[10, 125]⟩), .int .i64 40, .int .i64 3, .int .i64 c] 51)) ((Below.refl _ _).drew.alloc (Nat.le_refl _) _)
      refine hK.out _ _ hC (fun hHeld => ?_)
      clear hK K hHeld
      try simp only [Act.put, List.setIfInBounds_toArray, List.set_cons_zero, List.set_cons_succ]
      refine wpAnyH_ready (rs := [13]) (by kernel_rfl) (by simp) (AllReadyH.cons (o := (Oper.mk (some 61) (Op.call (Call.mk (Callee.builtin Builtin.append) #[(Operand.tmp 48), (Operand.tmp 60)] #[52, 52])) 52 "outright.go:116" #[(Edge.mk 0 Ground.data), (Edge.mk 12 Ground.data)] none)) rfl (fun K hK => ?_) AllReadyH.nil)
      refine step_append_lies (w := wr.drew.alloc (.cells #[.string (⟨#[102, 117, 110, 99, 32, 102, 40, 41, 32, 123, 10, 97, 58, 10]⟩ ++ f ++ ⟨#[10, 125]⟩), .int .i64 40, .int .i64 3, .int .i64 c] 51)) (by rfl) _ _ 52 (by rfl) B 51 i0 _ 4 40 Tryd.underlying52 hi0 hz0 hz1 hz2 rfl (by omega) (.slice av (20 + k) cv) (20 + k) ((badK ++ moreK.take k).flatMap cellsR) (by rfl) hown2.out ⟨wr.heap.size, 0, none⟩ 1 1 [.string (⟨#[102, 117, 110, 99, 32, 102, 40, 41, 32, 123, 10, 97, 58, 10]⟩ ++ f ++ ⟨#[10, 125]⟩), .int .i64 40, .int .i64 3, .int .i64 c] (by rfl) (by rfl) (World.news_of_block (cs := #[.string (⟨#[102, 117, 110, 99, 32, 102, 40, 41, 32, 123, 10, 97, 58, 10]⟩ ++ f ++ ⟨#[10, 125]⟩), .int .i64 40, .int .i64 3, .int .i64 c]) (t := 51) (fr := (0, 0)) (heap_alloc_new wr.drew _)) (by simp [Value.oneCell']) (by omega) (by unfold maxLen; omega) (by omega) (by simp; omega) (wr.heap.size + 1) (by simp) ?_
      intro gg cap2 w2 hO2 hg2 hat2 hlt2
      have hT2 : Touch wr w2 (fun j => (Value.slice av (20 + k) cv).ownBlock = some j) := (((Touch.refl wr (fun j => (Value.slice av (20 + k) cv).ownBlock = some j)).drew).alloc _).trans (Touch.of_grown hg2 (fun j e => e))
      replace hC := hCF.out w2 hT2
      have hO3 : w2.ownsRow B 51 4 (.slice (some ⟨gg, 0, none⟩) (20 + (k + 1)) cap2) (20 + (k + 1)) ((badK ++ moreK.take (k + 1)).flatMap cellsR) := by
        rw [moreK_take hf.out hc.out]
        exact hO2
      have hfin : Hid (w2.ownsRow B 51 4 (.slice (some ⟨gg, 0, none⟩) (20 + (k + 1)) cap2) (20 + (k + 1)) ((badK ++ moreK.take (k + 1)).flatMap cellsR) ∧ Touch w w2 (fun k => k = g0) ∧ ∀ g, (Value.slice (some ⟨gg, 0, none⟩) (20 + (k + 1)) cap2).ownBlock = some g → g = g0 ∨ w.heap.size ≤ g) := Lib.hid ⟨hO3, hG.out.2.1.then hT2 (fun j hj e => by rcases hG.out.2.2 j e with h | h; exact h; omega), fun g hg => by
        simp only [Value.ownBlock, Option.some.injEq] at hg
        subst hg
        rcases hat2 with e | e
        · exact hG.out.2.2 _ e
        · right; have := hG.out.2.1.size; omega⟩
      clear hO2 hg2 hat2 hlt2 hT2 hO3 hown2
      refine hK.out _ _ hC (fun hHeld => ?_)
      clear hK K hHeld
      try simp only [Act.put, List.setIfInBounds_toArray, List.set_cons_zero, List.set_cons_succ]
      refine wpAnyH_take (i := 14) (oi := (Oper.mk (some 1) (Op.assign (Operand.tmp 61)) 52 "outright.go:116" #[(Edge.mk 13 Ground.data), (Edge.mk 13 Ground.chain), (Edge.mk 0 Ground.phase), (Edge.mk 1 Ground.phase), (Edge.mk 2 Ground.phase), (Edge.mk 3 Ground.phase), (Edge.mk 4 Ground.phase), (Edge.mk 5 Ground.phase), (Edge.mk 6 Ground.phase), (Edge.mk 7 Ground.phase), (Edge.mk 8 Ground.phase), (Edge.mk 9 Ground.phase), (Edge.mk 10 Ground.phase), (Edge.mk 11 Ground.phase), (Edge.mk 12 Ground.phase), (Edge.mk 13 Ground.phase)] none)) (v := ?_) rfl (by kernel_rfl) (by kernel_rfl) (by kernel_rfl) (fun _ _ _ h => hPn h rfl) (Or.inl ⟨by rfl, ?_⟩) hC ?_
      rotate_left
      · (intro w hSw; (try dsimp only at hSw); go_simp; try with_reducible rfl)
      try simp only [Act.put, List.setIfInBounds_toArray, List.set_cons_zero, List.set_cons_succ]
      refine wpAnyH_done (by kernel_rfl) ?_ _
      go_wp2_with fail
      exact ⟨⟨k + 1, some ⟨gg, 0, none⟩, cap2, by omega, by go_num, by first | rfl | (simp; omega), hfin⟩, by simp [intOf]; omega⟩
    · obtain rfl : k = 33 := by omega
      clear hlt
      go_wp2_with fail
      exact hQ.out ⟨_, _, rfl, hG.out.1, hG.out.2.1⟩
end
section
open Go.RowKit Go.Maps Go.Shelf
attribute [local go_sem] Oper.semAt_some fld0 fld1 fld2

theorem rowsK_cells {w : World} {B c : Nat} {a : Option Addr} (h : w.ownsRow B 51 4 (.slice a 53 c) 53 (allK.flatMap cellsR)) : ∃ g, ∃ (_ : B ≤ g), a = some ⟨g, 0, none⟩ ∧ g < w.heap.size ∧ ∀ i r, allK[i]? = some r → w.cell? ⟨g, i * 4, none⟩ = some (.string r.1) ∧ w.cell? ⟨g, i * 4 + 1, none⟩ = some (.int .i64 r.2.1) ∧ w.cell? ⟨g, i * 4 + 2, none⟩ = some (.int .i64 r.2.2.1) ∧ w.cell? ⟨g, i * 4 + 3, none⟩ = some (.int .i64 r.2.2.2) := by
  rcases h.2 with ⟨-, h0⟩ | ⟨g, cap, cur, e, hB, hg, -⟩
  · omega
  · simp only [Value.slice.injEq] at e
    obtain ⟨rfl, -, rfl⟩ := e
    refine ⟨g, hB, rfl, (Array.getElem?_eq_some_iff.1 hg).1, fun i r hr => ?_⟩
    have key : ∀ j u, j < 4 → (cellsR r)[j]? = some u → w.cell? ⟨g, i * 4 + j, none⟩ = some u := fun j u hj hu => by
      have := h.cells (g := g) rfl (i * 4 + j) u (by rw [flatR_at allK i r hr j hj]; exact hu)
      rwa [add0] at this
    exact ⟨key 0 _ (by omega) rfl, key 1 _ (by omega) rfl, key 2 _ (by omega) rfl, key 3 _ (by omega) rfl⟩
set_option maxRecDepth 20000 in
set_option maxHeartbeats 4000000 in
theorem known2 {c : Code} (hc : Func.blockOf Tryd.f7 2 = some c) {Q : Exit → Act → World → Prop} {w : World} {B cp : Nat} {a : Option Addr} {x0 : Value} {u2 u3 u4 u6 u7 u8 u9 u10 u11 u12 u13 u14 u15 u16 u17 u18 u19 u20 u21 u22 u23 u24 u25 u26 u27 u28 u29 u30 u31 u32 u33 u34 u35 u36 u37 u38 u39 u40 u41 u42 u43 u44 u45 u46 u47 u48 u49 u50 u51 u52 u53 u54 u55 u56 u57 u58 u59 u60 u61 u62 u63 u64 u65 u66 u67 u68 u69 u70 u71 u72 u73 u74 u75 u76 u77 u78 u79 u80 u81 u82 u83 u84 u85 u86 u87 u88 u89 u90 u91 u92 u93 u94 u95 u96 u97 u98 u99 u100 u101 u102 u103 u104 u105 u106 u107 u108 u109 u110 u111 u112 u113 u114 u115 u116 u117 u118 u119 u120 u121 u122 u123 u124 u125 u126 u127 u128 u129 u130 u131 u132 u133 u134 u135 u136 u137 u138 u139 u140 u141 u142 u143 u144 u145 u146 u147 u148 u149 u150 u151 u152 u153 u154 u155 u156 u157 u158 u159 u160 u161 u162 u163 u164 u165 u166 u167 u168 u169 u170 u171 u172 u173 u174 u175 u176 u177 u178 u179 u180 u181 u182 u183 u184 u185 u186 u187 u188 u189 u190 u191 u192 u193 u194 u195 u196 u197 u198 u199 u200 u201 u202 u203 : Value}
    (hrow : w.ownsRow B 51 4 (.slice a 53 cp) 53 (allK.flatMap cellsR)) (hPn : ∀ {x : List PanicEntry} {a a1 : Act} {w : World}, Q (.panic x) a w → a.defers = a1.defers → Q (.panic x) a1 w)
    (hQ : Hid (∀ {wx : World} {v5 v6 v7 v8 v62 v63 v64 v65 v66 v67 v68 v69 v70 v71 v72 v73 v74 v75 v76 v77 v78 v79 v80 v81 v82 v83 v84 v85 v86 v87 v88 v89 v90 v91 v92 v93 v94 v95 v96 v97 v98 v99 v100 v101 v102 v103 v104 v105 v106 v107 v108 v109 v110 : Value}, Below w.heap.size w wx → Q .normal { tmps := #[x0, .slice a 53 cp, u2, u3, u4, v5, v6, v7, v8, u9, u10, u11, u12, u13, u14, u15, u16, u17, u18, u19, u20, u21, u22, u23, u24, u25, u26, u27, u28, u29, u30, u31, u32, u33, u34, u35, u36, u37, u38, u39, u40, u41, u42, u43, u44, u45, u46, u47, u48, u49, u50, u51, u52, u53, u54, u55, u56, u57, u58, u59, u60, u61, v62, v63, v64, v65, v66, v67, v68, v69, v70, v71, v72, v73, v74, v75, v76, v77, v78, v79, v80, v81, v82, v83, v84, v85, v86, v87, v88, v89, v90, v91, v92, v93, v94, v95, v96, v97, v98, v99, v100, v101, v102, v103, v104, v105, v106, v107, v108, v109, v110, u111, u112, u113, u114, u115, u116, u117, u118, u119, u120, u121, u122, u123, u124, u125, u126, u127, u128, u129, u130, u131, u132, u133, u134, u135, u136, u137, u138, u139, u140, u141, u142, u143, u144, u145, u146, u147, u148, u149, u150, u151, u152, u153, u154, u155, u156, u157, u158, u159, u160, u161, u162, u163, u164, u165, u166, u167, u168, u169, u170, u171, u172, u173, u174, u175, u176, u177, u178, u179, u180, u181, u182, u183, u184, u185, u186, u187, u188, u189, u190, u191, u192, u193, u194, u195, u196, u197, u198, u199, u200, u201, u202, u203], defers := [] } wx)) :
    c.wp Tryd.prog Q { tmps := #[x0, .slice a 53 cp, u2, u3, u4, .int .i64 0, u6, u7, u8, u9, u10, u11, u12, u13, u14, u15, u16, u17, u18, u19, u20, u21, u22, u23, u24, u25, u26, u27, u28, u29, u30, u31, u32, u33, u34, u35, u36, u37, u38, u39, u40, u41, u42, u43, u44, u45, u46, u47, u48, u49, u50, u51, u52, u53, u54, u55, u56, u57, u58, u59, u60, u61, u62, u63, u64, u65, u66, u67, u68, u69, u70, u71, u72, u73, u74, u75, u76, u77, u78, u79, u80, u81, u82, u83, u84, u85, u86, u87, u88, u89, u90, u91, u92, u93, u94, u95, u96, u97, u98, u99, u100, u101, u102, u103, u104, u105, u106, u107, u108, u109, u110, u111, u112, u113, u114, u115, u116, u117, u118, u119, u120, u121, u122, u123, u124, u125, u126, u127, u128, u129, u130, u131, u132, u133, u134, u135, u136, u137, u138, u139, u140, u141, u142, u143, u144, u145, u146, u147, u148, u149, u150, u151, u152, u153, u154, u155, u156, u157, u158, u159, u160, u161, u162, u163, u164, u165, u166, u167, u168, u169, u170, u171, u172, u173, u174, u175, u176, u177, u178, u179, u180, u181, u182, u183, u184, u185, u186, u187, u188, u189, u190, u191, u192, u193, u194, u195, u196, u197, u198, u199, u200, u201, u202, u203], defers := [] } w := by
  conv at hc => lhs; whnf
  simp only [Option.some.injEq] at hc
  subst hc
  obtain ⟨g, ga, rfl, hgl, hcells⟩ := rowsK_cells hrow
  replace hcells := Lib.hid hcells
  clear hrow
  go_wp2_with fail
  go_loopw [0, 5, 6, 7, 8] (fun x i _ _ _ wr => ∃ k : Nat, k ≤ 53 ∧ i = .int .i64 k ∧ x = x0 ∧ Hid (Below w.heap.size w wr)) (fun _ i _ _ _ _ => 53 - (intOf i).toNat)
  case atStart => exact ⟨0, Nat.zero_le _, rfl, rfl, Lib.hid (Below.refl _ _)⟩
  case round =>
    obtain ⟨k, hk, rfl, rfl, hb⟩ := hrel
    by_cases hlt : k < 53
    · have i1 : (k : Int) < 53 := by omega
      obtain ⟨r, hr⟩ : ∃ r, allK[k]? = some r := ⟨_, List.getElem?_eq_getElem (by rw [allK_len]; exact hlt)⟩
      obtain ⟨y0, y1, y2, y3⟩ := hcells.out k r hr
      have z0 := (hb.out.cell (p := ⟨g, k * 4, none⟩) hgl).trans y0
      have z1 := (hb.out.cell (p := ⟨g, k * 4 + 1, none⟩) hgl).trans y1
      have z2 := (hb.out.cell (p := ⟨g, k * 4 + 2, none⟩) hgl).trans y2
      have z3 := (hb.out.cell (p := ⟨g, k * 4 + 3, none⟩) hgl).trans y3
      have hgr : g < wr.heap.size := Nat.lt_of_lt_of_le hgl hb.out.size
      obtain ⟨hpar, hsz⟩ := allK_at hr
      have k1 := Lib.hid (fun w' => parse_any (w := w') (s := r.1) (by omega))
      rw [hpar] at k1
      obtain ⟨tx, er, ln, cl⟩ := r
      dsimp only at z0 z1 z2 z3 k1
      clear y0 y1 y2 y3 hr hpar hsz
      go_wp2_with fail
      refine (k1.out _).mono ?_
      rintro e w2 ⟨hb2, rfl⟩
      have u2 : ∀ A C : Obj, Below wr.heap.size wr ((w2.alloc A).alloc C) := fun A C => (hb2.alloc hb2.size A).alloc (by have := hb2.size; simp; omega) C
      have q1 : ∀ A C : Obj, ((w2.alloc A).alloc C).cell? ⟨g, k * 4 + 1, none⟩ = some (.int .i64 er) := fun A C => ((u2 A C).cell (p := ⟨g, k * 4 + 1, none⟩) hgr).trans z1
      have q2 : ∀ A C : Obj, ((w2.alloc A).alloc C).cell? ⟨g, k * 4 + 2, none⟩ = some (.int .i64 ln) := fun A C => ((u2 A C).cell (p := ⟨g, k * 4 + 2, none⟩) hgr).trans z2
      have q3 : ∀ A C : Obj, ((w2.alloc A).alloc C).cell? ⟨g, k * 4 + 3, none⟩ = some (.int .i64 cl) := fun A C => ((u2 A C).cell (p := ⟨g, k * 4 + 3, none⟩) hgr).trans z3
      have hgr2 : g < w2.heap.size := Nat.lt_of_lt_of_le hgr hb2.size
      replace u2 := Lib.hid u2
      clear z0 z1 z2 z3 hb2
      go_upto_region 12 with fail
      go_quiet (fail)
      go_wp2_with fail
      exact ⟨⟨k + 1, by omega, by go_num, by first | rfl | trivial, Lib.hid (hb.out.trans ((below_drawn (u2.out _ _) _).mono hb.out.size))⟩, by simp [intOf]; omega⟩
    · obtain rfl : k = 53 := by omega
      clear hlt
      go_wp2_with fail
      exact hQ.out hb.out
end
section
open Go.RowKit Go.Maps Go.Shelf
attribute [local go_sem] Oper.semAt_some fld0 fld1 fld2

set_option maxRecDepth 20000 in
set_option maxHeartbeats 2000000 in
theorem in_any {w : World} {o n : Int} {d a b f : ByteArray} {aa al : Option Addr} {na ca nl cl : Nat} : Calls Tryd.prog 14 #[.int .u8 o, .string d, .string a, .string b, .int .i64 n, .string f, .slice aa na ca, .slice al nl cl] w fun e w' => e = .returned (.agg #[.int .u8 o, .string d, .string a, .string b, .int .i64 n, .string f, .slice aa na ca, .slice al nl cl]) ∧ Below w.heap.size w w' := by
  go_enter Tryd.func14, Tryd.ntmps14
  go_wp2_with fail
  have y0 : (w.alloc (.cells #[.int .u8 o, .string d, .string a, .string b, .int .i64 n, .string f, .slice aa na ca, .slice al nl cl] 49)).cell? ⟨w.heap.size, 0, none⟩ = some (.int .u8 o) := by rw [blk_cell (at_newP rfl)]; rfl
  have y1 : (w.alloc (.cells #[.int .u8 o, .string d, .string a, .string b, .int .i64 n, .string f, .slice aa na ca, .slice al nl cl] 49)).cell? ⟨w.heap.size, 1, none⟩ = some (.string d) := by rw [blk_cell (at_newP rfl)]; rfl
  have y2 : (w.alloc (.cells #[.int .u8 o, .string d, .string a, .string b, .int .i64 n, .string f, .slice aa na ca, .slice al nl cl] 49)).cell? ⟨w.heap.size, 2, none⟩ = some (.string a) := by rw [blk_cell (at_newP rfl)]; rfl
  have y3 : (w.alloc (.cells #[.int .u8 o, .string d, .string a, .string b, .int .i64 n, .string f, .slice aa na ca, .slice al nl cl] 49)).cell? ⟨w.heap.size, 3, none⟩ = some (.string b) := by rw [blk_cell (at_newP rfl)]; rfl
  have y4 : (w.alloc (.cells #[.int .u8 o, .string d, .string a, .string b, .int .i64 n, .string f, .slice aa na ca, .slice al nl cl] 49)).cell? ⟨w.heap.size, 4, none⟩ = some (.int .i64 n) := by rw [blk_cell (at_newP rfl)]; rfl
  have y5 : (w.alloc (.cells #[.int .u8 o, .string d, .string a, .string b, .int .i64 n, .string f, .slice aa na ca, .slice al nl cl] 49)).cell? ⟨w.heap.size, 5, none⟩ = some (.string f) := by rw [blk_cell (at_newP rfl)]; rfl
  have y6 : (w.alloc (.cells #[.int .u8 o, .string d, .string a, .string b, .int .i64 n, .string f, .slice aa na ca, .slice al nl cl] 49)).cell? ⟨w.heap.size, 6, none⟩ = some (.slice aa na ca) := by rw [blk_cell (at_newP rfl)]; rfl
  have y7 : (w.alloc (.cells #[.int .u8 o, .string d, .string a, .string b, .int .i64 n, .string f, .slice aa na ca, .slice al nl cl] 49)).cell? ⟨w.heap.size, 7, none⟩ = some (.slice al nl cl) := by rw [blk_cell (at_newP rfl)]; rfl
  refine bodyPost_ret (v := .agg #[.int .u8 o, .string d, .string a, .string b, .int .i64 n, .string f, .slice aa na ca, .slice al nl cl]) (by simp [results, Tryd.results14, go_sem, *]) rfl ⟨rfl, ?_⟩
  exact (Below.refl _ _).alloc (Nat.le_refl _) _
end
section
open Go.RowKit Go.Maps Go.Shelf
attribute [local go_sem] Oper.semAt_some fld0 fld1 fld2

inductive Rows2 {α : Type} (R : List Value → α → Prop) : List (List Value) → List α → Prop
  | nil : Rows2 R [] []
  | cons {vs : List Value} {d : α} {V : List (List Value)} {L : List α} : R vs d → Rows2 R V L → Rows2 R (vs :: V) (d :: L)
theorem rows2_at {α : Type} {c : Nat} {R : List Value → α → Prop} : ∀ {V : List (List Value)} {L : List α}, Rows2 (fun vs d => R vs d ∧ vs.length = c) V L → ∀ i d, L[i]? = some d → ∃ vs, R vs d ∧ vs.length = c ∧ ∀ j u, vs[j]? = some u → (V.flatten)[i * c + j]? = some u
  | _, _, .nil, i, d, h => by simp at h
  | _, _, .cons (vs := vs) h t, 0, d, hd => by
    rw [List.getElem?_cons_zero] at hd
    injection hd with hd
    subst hd
    refine ⟨vs, h.1, h.2, fun j u hu => ?_⟩
    rw [List.flatten_cons, Nat.zero_mul, Nat.zero_add, List.getElem?_append_left (List.getElem?_eq_some_iff.1 hu).1]
    exact hu
  | _, _, .cons (vs := vs) h t, i + 1, d, hd => by
    rw [List.getElem?_cons_succ] at hd
    obtain ⟨ws, h1, h2, h3⟩ := rows2_at t i d hd
    refine ⟨ws, h1, h2, fun j u hu => ?_⟩
    rw [List.flatten_cons, List.getElem?_append_right (by rw [h.2, Nat.succ_mul]; omega), h.2, show (i + 1) * c + j - c = i * c + j by rw [Nat.succ_mul]; omega]
    exact h3 j u hu
theorem rde_block {α : Type} {c b cap : Nat} {R : World → List Value → α → Prop} {w : World} {cs : Array Value} {T : TypeId} {fr : Nat × Nat} {L : List α} (V : List (List Value)) (h : w.heap[b]? = some (.cells cs T fr)) (hcs : cs.toList = V.flatten) (hV : Rows2 (fun vs d => R w vs d ∧ vs.length = c) V L) : RdE c R w (.slice (some ⟨b, 0, none⟩) L.length cap) L := by
  refine .inr ⟨b, 0, cap, rfl, (Array.getElem?_eq_some_iff.1 h).1, fun i d hd => ?_⟩
  obtain ⟨vs, h1, h2, h3⟩ := rows2_at hV i d hd
  refine ⟨vs, h1, h2, fun j u hu => ?_⟩
  rw [blk_cell h, Nat.zero_add, ← Array.getElem?_toList, hcs]
  exact h3 j u hu
theorem rds_block {b cap : Nat} {w : World} {cs : Array Value} {T : TypeId} {fr : Nat × Nat} {ss : List ByteArray} (h : w.heap[b]? = some (.cells cs T fr)) (hcs : cs.toList = ss.map Value.string) : RdS w (.slice (some ⟨b, 0, none⟩) ss.length cap) ss := by
  refine .inr ⟨b, 0, cap, by simp, (Array.getElem?_eq_some_iff.1 h).1, fun i u hu => ?_⟩
  rw [blk_cell h, Nat.zero_add, ← Array.getElem?_toList, hcs]
  exact hu
theorem rds_nilK (w : World) : RdS w (.slice none 0 0) [] := .inl ⟨rfl, .inl rfl⟩
theorem fit_big : FitP bigP := ⟨by decide, by decide⟩
set_option maxRecDepth 40000 in
set_option maxHeartbeats 8000000 in
theorem known_law {w : World} : Calls Tryd.prog 7 #[] w fun e w' => e = .returned (.bool true) ∧ Below w.heap.size w w' := by
  have k1 := Lib.hid (fun w' => parse_any (w := w') (s := ⟨bigB.toArray⟩) (by decide))
  have k2 := Lib.hid (fun w' => parse_any (w := w') (s := ⟨smallB.toArray⟩) (by decide))
  rw [show (⟨bigB.toArray⟩ : ByteArray).data.toList = bigB from rfl, big_parse] at k1
  rw [show (⟨smallB.toArray⟩ : ByteArray).data.toList = smallB from rfl, small_parse] at k2
  unfold bigB at k1
  unfold smallB at k2
  obtain ⟨W3, hW3⟩ : ∃ W3, W3 = ((w.alloc (.cells (badK.flatMap cellsR).toArray 51)).alloc (.cells (formsK.map Value.string).toArray 9)).alloc (.cells (colsK.map fun c : Nat => Value.int .i64 c).toArray 3) := ⟨_, rfl⟩
  have hg : ((w.alloc (.cells #[.string ⟨#[102, 117, 110, 99, 32, 102, 40, 41, 32, 123, 32, 97, 58]⟩, .int .i64 40, .int .i64 1, .int .i64 12, .string ⟨#[102, 117, 110, 99, 32, 102, 40, 10, 41, 32, 123]⟩, .int .i64 40, .int .i64 2, .int .i64 1, .string ⟨#[102, 117, 110, 99, 32, 102, 40, 41, 32, 123, 10, 97, 58, 10, 120, 32, 61, 32, 99, 111, 112, 121, 10, 125]⟩, .int .i64 40, .int .i64 4, .int .i64 1, .string ⟨#[102, 117, 110, 99, 32, 102, 40, 41, 32, 123, 10, 97, 58, 10, 114, 101, 116]⟩, .int .i64 41, .int .i64 3, .int .i64 4, .string ⟨#[102, 117, 110, 99, 32, 102, 40, 41, 32, 123, 10, 120, 32, 61, 32, 110, 117, 108, 108, 10, 125]⟩, .int .i64 40, .int .i64 2, .int .i64 3, .string ⟨#[102, 117, 110, 99]⟩, .int .i64 41, .int .i64 1, .int .i64 5, .string ⟨#[102, 117, 110, 32, 102, 40, 41, 32, 123]⟩, .int .i64 40, .int .i64 1, .int .i64 1, .string ⟨#[102, 117, 110, 99, 32, 49, 40, 41, 32, 123]⟩, .int .i64 40, .int .i64 1, .int .i64 6, .string ⟨#[102, 117, 110, 99, 32, 102, 40, 97, 32, 98, 41, 32, 123]⟩, .int .i64 40, .int .i64 1, .int .i64 10, .string ⟨#[102, 117, 110, 99, 32, 102, 40, 97, 44, 41, 32, 123]⟩, .int .i64 40, .int .i64 1, .int .i64 10, .string ⟨#[102, 117, 110, 99, 32, 102, 40, 41, 10, 123]⟩, .int .i64 40, .int .i64 2, .int .i64 1, .string ⟨#[102, 117, 110, 99, 32, 102, 40, 41, 32, 123, 10, 125, 32, 125]⟩, .int .i64 40, .int .i64 2, .int .i64 3, .string ⟨#[102, 117, 110, 99, 32, 102, 40, 41, 32, 123, 10, 125, 10, 120]⟩, .int .i64 40, .int .i64 3, .int .i64 1, .string ⟨#[102, 117, 110, 99, 32, 102, 40, 41, 32, 123, 10, 97, 58, 32, 114, 101, 116, 10, 125]⟩, .int .i64 40, .int .i64 2, .int .i64 4, .string ⟨#[102, 117, 110, 99, 32, 102, 40, 41, 32, 123, 10, 97, 10, 58, 10, 125]⟩, .int .i64 40, .int .i64 3, .int .i64 1, .string ⟨#[120, 10, 49, 97]⟩, .int .i64 31, .int .i64 2, .int .i64 1, .string ⟨#[102, 117, 110, 99, 32, 102, 40, 41, 32, 123, 10, 97, 58, 10, 120, 32, 61, 32, 99, 111, 112, 121, 10, 114, 101, 116, 10, 125]⟩, .int .i64 40, .int .i64 4, .int .i64 1, .string ⟨#[102, 117, 110, 99, 32, 102, 40, 41, 32, 123, 10, 97, 58, 10, 98, 114, 32, 97, 10, 98, 10, 125]⟩, .int .i64 40, .int .i64 4, .int .i64 1, .string ⟨#[102, 117, 110, 99, 32, 102, 40, 41, 32, 123, 10, 97, 58, 10, 49, 10, 125]⟩, .int .i64 40, .int .i64 3, .int .i64 1, .string ⟨#[102, 117, 110, 99, 32, 102, 40, 41, 32, 123, 10, 97, 58, 10, 40, 10, 125]⟩, .int .i64 40, .int .i64 3, .int .i64 1] 51)).alloc (.cells #[.string ⟨#[120, 32, 61, 32, 97, 108, 108, 111, 99, 97, 32, 121]⟩, .string ⟨#[120, 32, 61, 32, 109, 97, 108, 108, 111, 99, 32, 40]⟩, .string ⟨#[120, 32, 61, 32, 110, 117, 108, 108, 32, 121]⟩, .string ⟨#[120, 32, 61, 32, 97, 100, 100, 114, 32, 49]⟩, .string ⟨#[120, 32, 61, 32, 99, 111, 112, 121, 32, 49]⟩, .string ⟨#[120, 32, 61, 32, 108, 111, 97, 100, 32, 41]⟩, .string ⟨#[120, 32, 61, 32, 102, 105, 101, 108, 100, 32, 121, 32, 122]⟩, .string ⟨#[120, 32, 61, 32, 112, 104, 105, 32, 121]⟩, .string ⟨#[120, 32, 61, 32, 112, 104, 105, 32, 91, 93]⟩, .string ⟨#[120, 32, 61, 32, 112, 104, 105, 32, 91, 97, 32, 98, 93]⟩, .string ⟨#[120, 32, 61, 32, 112, 104, 105, 32, 91, 97, 58, 32, 98, 32, 99, 93]⟩, .string ⟨#[120, 32, 61, 32, 112, 104, 105, 32, 91, 97, 58, 32, 98, 44, 93]⟩, .string ⟨#[120, 32, 61, 32, 112, 104, 105, 32, 91, 97, 58, 32, 49, 93]⟩, .string ⟨#[120, 32, 61, 32, 99, 97, 108, 108, 32, 49]⟩, .string ⟨#[120, 32, 61, 32, 99, 97, 108, 108, 32, 102, 32, 97]⟩, .string ⟨#[120, 32, 61, 32, 99, 97, 108, 108, 32, 102, 40, 97, 32, 98, 41]⟩, .string ⟨#[120, 32, 61, 32, 105, 99, 97, 108, 108, 32, 102, 40, 44, 41]⟩, .string ⟨#[120, 32, 61, 32, 102, 111, 111, 32, 121]⟩, .string ⟨#[120, 32, 61, 32, 49]⟩, .string ⟨#[99, 97, 108, 108, 32, 102, 32, 97]⟩, .string ⟨#[105, 99, 97, 108, 108, 32, 49]⟩, .string ⟨#[115, 116, 111, 114, 101, 32, 97, 32, 98]⟩, .string ⟨#[115, 116, 111, 114, 101, 32, 97, 44, 32, 49]⟩, .string ⟨#[98, 114, 32, 97, 32, 49]⟩, .string ⟨#[98, 114, 32, 97, 32, 98, 32, 99]⟩, .string ⟨#[103, 111, 116, 111, 32, 49]⟩, .string ⟨#[103, 111, 116, 111, 32, 97, 32, 98]⟩, .string ⟨#[114, 101, 116, 32, 49]⟩, .string ⟨#[114, 101, 116, 32, 97, 32, 98]⟩, .string ⟨#[102, 111, 111, 32, 98, 97, 114]⟩, .string ⟨#[102, 111, 111, 32, 40]⟩, .string ⟨#[120, 32, 61, 32, 114, 101, 116]⟩, .string ⟨#[120, 32, 58, 32, 121]⟩] 9)).alloc (.cells #[.int .i64 12, .int .i64 12, .int .i64 10, .int .i64 10, .int .i64 10, .int .i64 10, .int .i64 13, .int .i64 9, .int .i64 10, .int .i64 12, .int .i64 15, .int .i64 15, .int .i64 13, .int .i64 10, .int .i64 12, .int .i64 14, .int .i64 13, .int .i64 5, .int .i64 5, .int .i64 8, .int .i64 7, .int .i64 9, .int .i64 10, .int .i64 6, .int .i64 8, .int .i64 6, .int .i64 8, .int .i64 5, .int .i64 7, .int .i64 5, .int .i64 5, .int .i64 5, .int .i64 5] 3) = W3 := by rw [hW3]; rfl
  have hb3 : Below w.heap.size w W3 := by rw [hW3]; exact (((Below.refl _ _).alloc (Nat.le_refl _) _).alloc (by simp) _).alloc (by simp; omega) _
  have x1 : W3.heap[w.heap.size]? = some (.cells (badK.flatMap cellsR).toArray 51) := by rw [hW3]; exact at_oldP (at_oldP (at_newP rfl))
  have x2 : W3.heap[w.heap.size + 1]? = some (.cells (formsK.map Value.string).toArray 9) := by rw [hW3]; exact at_oldP (at_newP (by simp))
  have x3 : W3.heap[w.heap.size + 1 + 1]? = some (.cells (colsK.map fun c : Nat => Value.int .i64 c).toArray 3) := by rw [hW3]; exact at_newP (by simp)
  have hrow : W3.ownsRow w.heap.size 51 4 (.slice (some ⟨w.heap.size, 0, none⟩) 20 20) 20 (badK.flatMap cellsR) := ⟨by rw [flatR_len]; rfl, .inr ⟨_, 20, _, rfl, Nat.le_refl _, x1, Nat.le_refl _, by unfold maxLen; omega, by simp [flatR_len]; rfl, by rw [List.take_of_length_le (by simp [flatR_len]; exact Nat.le_refl _)]⟩⟩
  clear hW3
  replace hg := Lib.hid hg
  replace hb3 := Lib.hid hb3
  replace x1 := Lib.hid x1
  replace x2 := Lib.hid x2
  replace x3 := Lib.hid x3
  replace hrow := Lib.hid hrow
  go_enter Tryd.func7, Tryd.ntmps7
  go_upto_block 0 with fail
  rw [hg.out]
  refine known0 (by kernel_rfl) (w := W3) hrow.out x2.out x3.out (by omega) (by omega) hb3.out.size (fun {_ a a1 _} h e => by cases a; cases a1; cases e; exact h) (Lib.hid ?_)
  intros
  rename_i hx
  rename World => w4
  obtain ⟨a1, cp1, rfl, hr1, hT1⟩ := hx
  have hb4 := Lib.hid (hb3.out.trans (hT1.below hb3.out.size (fun k hk e => by omega)))
  replace hr1 := Lib.hid hr1
  clear hT1 hb3 x1 x2 x3 hrow hg
  go_upto_block 2 with fail
  refine known2 (by kernel_rfl) (w := w4) hr1.out (fun {_ a a1 _} h e => by cases a; cases a1; cases e; exact h) (Lib.hid ?_)
  intros
  rename_i hx
  rename World => w5
  have hb5 := Lib.hid (hb4.out.trans (hx.mono hb4.out.size))
  clear hx hb4 hr1
  go_wp2_with fail
  refine (k1.out _).mono ?_
  intro e w6 h6
  obtain ⟨va, n1, vc, rfl, hb6, hn1, hr6⟩ := post_all h6
  obtain rfl : n1 = 2 := hn1
  dsimp only [errR]
  rw [Int.natCast_zero]
  have hr6 : RdE 3 RdFun w6 (.slice va 2 vc) bigP := hr6 w6 (Touch.refl _ _)
  have u6 : ∀ A C : Obj, Below w6.heap.size w6 ((w6.alloc A).alloc C) := fun A C => ((Below.refl _ _).alloc (Nat.le_refl _) _).alloc (by simp) _
  have hb7 : ∀ A C : Obj, Below w.heap.size w ((w6.alloc A).alloc C) := fun A C => (hb5.out.trans (hb6.mono hb5.out.size)).trans ((u6 A C).mono (Nat.le_trans hb5.out.size hb6.size))
  have xp : ∀ C : Obj, ((w6.alloc (.cells #[.slice va 2 vc] 24)).alloc C).heap[w6.heap.size]? = some (.cells #[.slice va 2 vc] 24) := fun C => at_oldP (at_newP rfl)
  have hrp : ∀ A C : Obj, RdE 3 RdFun ((w6.alloc A).alloc C) (.slice va 2 vc) bigP := fun A C => RdE.below (fun _ _ h => h.below (u6 A C)) hr6 (u6 A C)
  replace hb7 := Lib.hid hb7
  replace xp := Lib.hid xp
  replace hrp := Lib.hid hrp
  clear h6 hb6 hr6 u6 hb5 k1
  go_wp2_with fail
  refine in_any.mono ?_
  rintro e y1 ⟨rfl, hy⟩
  have hb := Lib.hid ((hb7.out _ _).trans (hy.mono (hb7.out _ _).size))
  have xp := Lib.hid (keepB hy (xp.out _))
  have hrp := Lib.hid (RdE.below (fun _ _ h => h.below hy) (hrp.out _ _) hy)
  clear hy hb7
  generalize w6.heap.size = zp at *
  go_wp2_with fail
  refine in_any.mono ?_
  rintro e y2 ⟨rfl, hy⟩
  have hv := hy
  replace xp := Lib.hid (keepB hv xp.out)
  replace hb := Lib.hid (hb.out.trans (hv.mono hb.out.size))
  replace hrp := Lib.hid (RdE.below (fun _ _ h => h.below hv) hrp.out hv)
  clear hv hy
  go_wp2_with fail
  refine in_any.mono ?_
  rintro e y3 ⟨rfl, hy⟩
  have hv := hy
  replace xp := Lib.hid (keepB hv xp.out)
  replace hb := Lib.hid (hb.out.trans (hv.mono hb.out.size))
  replace hrp := Lib.hid (RdE.below (fun _ _ h => h.below hv) hrp.out hv)
  clear hv hy
  go_wp2_with fail
  refine in_any.mono ?_
  rintro e y4 ⟨rfl, hy⟩
  have hv := hy
  replace xp := Lib.hid (keepB hv xp.out)
  replace hb := Lib.hid (hb.out.trans (hv.mono hb.out.size))
  replace hrp := Lib.hid (RdE.below (fun _ _ h => h.below hv) hrp.out hv)
  clear hv hy
  go_wp2_with fail
  refine in_any.mono ?_
  rintro e y5 ⟨rfl, hy⟩
  have hv := hy
  replace xp := Lib.hid (keepB hv xp.out)
  replace hb := Lib.hid (hb.out.trans (hv.mono hb.out.size))
  replace hrp := Lib.hid (RdE.below (fun _ _ h => h.below hv) hrp.out hv)
  clear hv hy
  go_wp2_with fail
  refine in_any.mono ?_
  rintro e y6 ⟨rfl, hy⟩
  have hu : Below y5.heap.size y5 (((y5.alloc (.cells #[.int .u8 1, .string ⟨#[120]⟩, .string ⟨#[]⟩, .string ⟨#[]⟩, .int .i64 2, .string ⟨#[]⟩, .slice none 0 0, .slice none 0 0, .int .u8 2, .string ⟨#[121]⟩, .string ⟨#[]⟩, .string ⟨#[]⟩, .int .i64 1, .string ⟨#[]⟩, .slice none 0 0, .slice none 0 0, .int .u8 3, .string ⟨#[122]⟩, .string ⟨#[]⟩, .string ⟨#[]⟩, .int .i64 0, .string ⟨#[]⟩, .slice none 0 0, .slice none 0 0, .int .u8 4, .string ⟨#[102]⟩, .string ⟨#[]⟩, .string ⟨#[]⟩, .int .i64 0, .string ⟨#[109, 97, 105, 110]⟩, .slice none 0 0, .slice none 0 0, .int .u8 5, .string ⟨#[99]⟩, .string ⟨#[110, 117, 108, 108]⟩, .string ⟨#[]⟩, .int .i64 0, .string ⟨#[]⟩, .slice none 0 0, .slice none 0 0] 49)).alloc (.cells #[.string ⟨#[120]⟩, .string ⟨#[110, 117, 108, 108]⟩] 9)).alloc (.cells #[.string ⟨#[97]⟩, .string ⟨#[98]⟩] 9)) := ((((Below.refl _ _).alloc (by simp) _).alloc (by simp) _).alloc (by simp; omega) _)
  have hv := hu.trans (hy.mono hu.size)
  have x5_0 : (((y5.alloc (.cells #[.int .u8 1, .string ⟨#[120]⟩, .string ⟨#[]⟩, .string ⟨#[]⟩, .int .i64 2, .string ⟨#[]⟩, .slice none 0 0, .slice none 0 0, .int .u8 2, .string ⟨#[121]⟩, .string ⟨#[]⟩, .string ⟨#[]⟩, .int .i64 1, .string ⟨#[]⟩, .slice none 0 0, .slice none 0 0, .int .u8 3, .string ⟨#[122]⟩, .string ⟨#[]⟩, .string ⟨#[]⟩, .int .i64 0, .string ⟨#[]⟩, .slice none 0 0, .slice none 0 0, .int .u8 4, .string ⟨#[102]⟩, .string ⟨#[]⟩, .string ⟨#[]⟩, .int .i64 0, .string ⟨#[109, 97, 105, 110]⟩, .slice none 0 0, .slice none 0 0, .int .u8 5, .string ⟨#[99]⟩, .string ⟨#[110, 117, 108, 108]⟩, .string ⟨#[]⟩, .int .i64 0, .string ⟨#[]⟩, .slice none 0 0, .slice none 0 0] 49)).alloc (.cells #[.string ⟨#[120]⟩, .string ⟨#[110, 117, 108, 108]⟩] 9)).alloc (.cells #[.string ⟨#[97]⟩, .string ⟨#[98]⟩] 9)).heap[y5.heap.size]? = some (.cells #[.int .u8 1, .string ⟨#[120]⟩, .string ⟨#[]⟩, .string ⟨#[]⟩, .int .i64 2, .string ⟨#[]⟩, .slice none 0 0, .slice none 0 0, .int .u8 2, .string ⟨#[121]⟩, .string ⟨#[]⟩, .string ⟨#[]⟩, .int .i64 1, .string ⟨#[]⟩, .slice none 0 0, .slice none 0 0, .int .u8 3, .string ⟨#[122]⟩, .string ⟨#[]⟩, .string ⟨#[]⟩, .int .i64 0, .string ⟨#[]⟩, .slice none 0 0, .slice none 0 0, .int .u8 4, .string ⟨#[102]⟩, .string ⟨#[]⟩, .string ⟨#[]⟩, .int .i64 0, .string ⟨#[109, 97, 105, 110]⟩, .slice none 0 0, .slice none 0 0, .int .u8 5, .string ⟨#[99]⟩, .string ⟨#[110, 117, 108, 108]⟩, .string ⟨#[]⟩, .int .i64 0, .string ⟨#[]⟩, .slice none 0 0, .slice none 0 0] 49) := at_oldP (at_oldP (at_newP rfl))
  replace x5_0 := Lib.hid (keepB hy x5_0)
  have x5_1 : (((y5.alloc (.cells #[.int .u8 1, .string ⟨#[120]⟩, .string ⟨#[]⟩, .string ⟨#[]⟩, .int .i64 2, .string ⟨#[]⟩, .slice none 0 0, .slice none 0 0, .int .u8 2, .string ⟨#[121]⟩, .string ⟨#[]⟩, .string ⟨#[]⟩, .int .i64 1, .string ⟨#[]⟩, .slice none 0 0, .slice none 0 0, .int .u8 3, .string ⟨#[122]⟩, .string ⟨#[]⟩, .string ⟨#[]⟩, .int .i64 0, .string ⟨#[]⟩, .slice none 0 0, .slice none 0 0, .int .u8 4, .string ⟨#[102]⟩, .string ⟨#[]⟩, .string ⟨#[]⟩, .int .i64 0, .string ⟨#[109, 97, 105, 110]⟩, .slice none 0 0, .slice none 0 0, .int .u8 5, .string ⟨#[99]⟩, .string ⟨#[110, 117, 108, 108]⟩, .string ⟨#[]⟩, .int .i64 0, .string ⟨#[]⟩, .slice none 0 0, .slice none 0 0] 49)).alloc (.cells #[.string ⟨#[120]⟩, .string ⟨#[110, 117, 108, 108]⟩] 9)).alloc (.cells #[.string ⟨#[97]⟩, .string ⟨#[98]⟩] 9)).heap[y5.heap.size + 1]? = some (.cells #[.string ⟨#[120]⟩, .string ⟨#[110, 117, 108, 108]⟩] 9) := at_oldP (at_newP (by simp))
  replace x5_1 := Lib.hid (keepB hy x5_1)
  have x5_2 : (((y5.alloc (.cells #[.int .u8 1, .string ⟨#[120]⟩, .string ⟨#[]⟩, .string ⟨#[]⟩, .int .i64 2, .string ⟨#[]⟩, .slice none 0 0, .slice none 0 0, .int .u8 2, .string ⟨#[121]⟩, .string ⟨#[]⟩, .string ⟨#[]⟩, .int .i64 1, .string ⟨#[]⟩, .slice none 0 0, .slice none 0 0, .int .u8 3, .string ⟨#[122]⟩, .string ⟨#[]⟩, .string ⟨#[]⟩, .int .i64 0, .string ⟨#[]⟩, .slice none 0 0, .slice none 0 0, .int .u8 4, .string ⟨#[102]⟩, .string ⟨#[]⟩, .string ⟨#[]⟩, .int .i64 0, .string ⟨#[109, 97, 105, 110]⟩, .slice none 0 0, .slice none 0 0, .int .u8 5, .string ⟨#[99]⟩, .string ⟨#[110, 117, 108, 108]⟩, .string ⟨#[]⟩, .int .i64 0, .string ⟨#[]⟩, .slice none 0 0, .slice none 0 0] 49)).alloc (.cells #[.string ⟨#[120]⟩, .string ⟨#[110, 117, 108, 108]⟩] 9)).alloc (.cells #[.string ⟨#[97]⟩, .string ⟨#[98]⟩] 9)).heap[y5.heap.size + 1 + 1]? = some (.cells #[.string ⟨#[97]⟩, .string ⟨#[98]⟩] 9) := at_newP (by simp)
  replace x5_2 := Lib.hid (keepB hy x5_2)
  replace xp := Lib.hid (keepB hv xp.out)
  replace hb := Lib.hid (hb.out.trans (hv.mono hb.out.size))
  replace hrp := Lib.hid (RdE.below (fun _ _ h => h.below hv) hrp.out hv)
  clear hv hy hu
  generalize y5.heap.size = z5 at *
  go_wp2_with fail
  refine in_any.mono ?_
  rintro e y7 ⟨rfl, hy⟩
  have hv := hy
  replace xp := Lib.hid (keepB hv xp.out)
  replace x5_0 := Lib.hid (keepB hv x5_0.out)
  replace x5_1 := Lib.hid (keepB hv x5_1.out)
  replace x5_2 := Lib.hid (keepB hv x5_2.out)
  replace hb := Lib.hid (hb.out.trans (hv.mono hb.out.size))
  replace hrp := Lib.hid (RdE.below (fun _ _ h => h.below hv) hrp.out hv)
  clear hv hy
  go_wp2_with fail
  refine in_any.mono ?_
  rintro e y8 ⟨rfl, hy⟩
  have hv := hy
  replace xp := Lib.hid (keepB hv xp.out)
  replace x5_0 := Lib.hid (keepB hv x5_0.out)
  replace x5_1 := Lib.hid (keepB hv x5_1.out)
  replace x5_2 := Lib.hid (keepB hv x5_2.out)
  replace hb := Lib.hid (hb.out.trans (hv.mono hb.out.size))
  replace hrp := Lib.hid (RdE.below (fun _ _ h => h.below hv) hrp.out hv)
  clear hv hy
  go_wp2_with fail
  refine in_any.mono ?_
  rintro e y9 ⟨rfl, hy⟩
  have hv := hy
  replace xp := Lib.hid (keepB hv xp.out)
  replace x5_0 := Lib.hid (keepB hv x5_0.out)
  replace x5_1 := Lib.hid (keepB hv x5_1.out)
  replace x5_2 := Lib.hid (keepB hv x5_2.out)
  replace hb := Lib.hid (hb.out.trans (hv.mono hb.out.size))
  replace hrp := Lib.hid (RdE.below (fun _ _ h => h.below hv) hrp.out hv)
  clear hv hy
  go_wp2_with fail
  refine in_any.mono ?_
  rintro e y10 ⟨rfl, hy⟩
  have hu : Below y9.heap.size y9 (y9.alloc (.cells #[.string ⟨#[112]⟩, .string ⟨#[120]⟩] 9)) := ((Below.refl _ _).alloc (by simp) _)
  have hv := hu.trans (hy.mono hu.size)
  have x9_0 : (y9.alloc (.cells #[.string ⟨#[112]⟩, .string ⟨#[120]⟩] 9)).heap[y9.heap.size]? = some (.cells #[.string ⟨#[112]⟩, .string ⟨#[120]⟩] 9) := at_newP rfl
  replace x9_0 := Lib.hid (keepB hy x9_0)
  replace xp := Lib.hid (keepB hv xp.out)
  replace x5_0 := Lib.hid (keepB hv x5_0.out)
  replace x5_1 := Lib.hid (keepB hv x5_1.out)
  replace x5_2 := Lib.hid (keepB hv x5_2.out)
  replace hb := Lib.hid (hb.out.trans (hv.mono hb.out.size))
  replace hrp := Lib.hid (RdE.below (fun _ _ h => h.below hv) hrp.out hv)
  clear hv hy hu
  generalize y9.heap.size = z9 at *
  go_wp2_with fail
  refine in_any.mono ?_
  rintro e y11 ⟨rfl, hy⟩
  have hv := hy
  replace xp := Lib.hid (keepB hv xp.out)
  replace x5_0 := Lib.hid (keepB hv x5_0.out)
  replace x5_1 := Lib.hid (keepB hv x5_1.out)
  replace x5_2 := Lib.hid (keepB hv x5_2.out)
  replace x9_0 := Lib.hid (keepB hv x9_0.out)
  replace hb := Lib.hid (hb.out.trans (hv.mono hb.out.size))
  replace hrp := Lib.hid (RdE.below (fun _ _ h => h.below hv) hrp.out hv)
  clear hv hy
  go_wp2_with fail
  refine in_any.mono ?_
  rintro e y12 ⟨rfl, hy⟩
  have hu : Below y11.heap.size y11 (y11.alloc (.cells #[.string ⟨#[110, 117, 108, 108]⟩] 9)) := ((Below.refl _ _).alloc (by simp) _)
  have hv := hu.trans (hy.mono hu.size)
  have x11_0 : (y11.alloc (.cells #[.string ⟨#[110, 117, 108, 108]⟩] 9)).heap[y11.heap.size]? = some (.cells #[.string ⟨#[110, 117, 108, 108]⟩] 9) := at_newP rfl
  replace x11_0 := Lib.hid (keepB hy x11_0)
  replace xp := Lib.hid (keepB hv xp.out)
  replace x5_0 := Lib.hid (keepB hv x5_0.out)
  replace x5_1 := Lib.hid (keepB hv x5_1.out)
  replace x5_2 := Lib.hid (keepB hv x5_2.out)
  replace x9_0 := Lib.hid (keepB hv x9_0.out)
  replace hb := Lib.hid (hb.out.trans (hv.mono hb.out.size))
  replace hrp := Lib.hid (RdE.below (fun _ _ h => h.below hv) hrp.out hv)
  clear hv hy hu
  generalize y11.heap.size = z11 at *
  go_wp2_with fail
  refine in_any.mono ?_
  rintro e y13 ⟨rfl, hy⟩
  have hu : Below y12.heap.size y12 (y12.alloc (.cells #[.string ⟨#[97]⟩, .string ⟨#[98]⟩] 9)) := ((Below.refl _ _).alloc (by simp) _)
  have hv := hu.trans (hy.mono hu.size)
  have x12_0 : (y12.alloc (.cells #[.string ⟨#[97]⟩, .string ⟨#[98]⟩] 9)).heap[y12.heap.size]? = some (.cells #[.string ⟨#[97]⟩, .string ⟨#[98]⟩] 9) := at_newP rfl
  replace x12_0 := Lib.hid (keepB hy x12_0)
  replace xp := Lib.hid (keepB hv xp.out)
  replace x5_0 := Lib.hid (keepB hv x5_0.out)
  replace x5_1 := Lib.hid (keepB hv x5_1.out)
  replace x5_2 := Lib.hid (keepB hv x5_2.out)
  replace x9_0 := Lib.hid (keepB hv x9_0.out)
  replace x11_0 := Lib.hid (keepB hv x11_0.out)
  replace hb := Lib.hid (hb.out.trans (hv.mono hb.out.size))
  replace hrp := Lib.hid (RdE.below (fun _ _ h => h.below hv) hrp.out hv)
  clear hv hy hu
  generalize y12.heap.size = z12 at *
  go_wp2_with fail
  refine in_any.mono ?_
  rintro e y14 ⟨rfl, hy⟩
  have hu : Below y13.heap.size y13 (y13.alloc (.cells #[.string ⟨#[97]⟩, .string ⟨#[98]⟩] 9)) := ((Below.refl _ _).alloc (by simp) _)
  have hv := hu.trans (hy.mono hu.size)
  have x13_0 : (y13.alloc (.cells #[.string ⟨#[97]⟩, .string ⟨#[98]⟩] 9)).heap[y13.heap.size]? = some (.cells #[.string ⟨#[97]⟩, .string ⟨#[98]⟩] 9) := at_newP rfl
  replace x13_0 := Lib.hid (keepB hy x13_0)
  replace xp := Lib.hid (keepB hv xp.out)
  replace x5_0 := Lib.hid (keepB hv x5_0.out)
  replace x5_1 := Lib.hid (keepB hv x5_1.out)
  replace x5_2 := Lib.hid (keepB hv x5_2.out)
  replace x9_0 := Lib.hid (keepB hv x9_0.out)
  replace x11_0 := Lib.hid (keepB hv x11_0.out)
  replace x12_0 := Lib.hid (keepB hv x12_0.out)
  replace hb := Lib.hid (hb.out.trans (hv.mono hb.out.size))
  replace hrp := Lib.hid (RdE.below (fun _ _ h => h.below hv) hrp.out hv)
  clear hv hy hu
  generalize y13.heap.size = z13 at *
  go_wp2_with fail
  refine in_any.mono ?_
  rintro e y15 ⟨rfl, hy⟩
  have hv := hy
  replace xp := Lib.hid (keepB hv xp.out)
  replace x5_0 := Lib.hid (keepB hv x5_0.out)
  replace x5_1 := Lib.hid (keepB hv x5_1.out)
  replace x5_2 := Lib.hid (keepB hv x5_2.out)
  replace x9_0 := Lib.hid (keepB hv x9_0.out)
  replace x11_0 := Lib.hid (keepB hv x11_0.out)
  replace x12_0 := Lib.hid (keepB hv x12_0.out)
  replace x13_0 := Lib.hid (keepB hv x13_0.out)
  replace hb := Lib.hid (hb.out.trans (hv.mono hb.out.size))
  replace hrp := Lib.hid (RdE.below (fun _ _ h => h.below hv) hrp.out hv)
  clear hv hy
  go_wp2_with fail
  refine in_any.mono ?_
  rintro e y16 ⟨rfl, hy⟩
  have hv := hy
  replace xp := Lib.hid (keepB hv xp.out)
  replace x5_0 := Lib.hid (keepB hv x5_0.out)
  replace x5_1 := Lib.hid (keepB hv x5_1.out)
  replace x5_2 := Lib.hid (keepB hv x5_2.out)
  replace x9_0 := Lib.hid (keepB hv x9_0.out)
  replace x11_0 := Lib.hid (keepB hv x11_0.out)
  replace x12_0 := Lib.hid (keepB hv x12_0.out)
  replace x13_0 := Lib.hid (keepB hv x13_0.out)
  replace hb := Lib.hid (hb.out.trans (hv.mono hb.out.size))
  replace hrp := Lib.hid (RdE.below (fun _ _ h => h.below hv) hrp.out hv)
  clear hv hy
  go_wp2_with fail
  refine in_any.mono ?_
  rintro e y17 ⟨rfl, hy⟩
  have hu : Below y16.heap.size y16 (y16.alloc (.cells #[.string ⟨#[97]⟩] 9)) := ((Below.refl _ _).alloc (by simp) _)
  have hv := hu.trans (hy.mono hu.size)
  have x16_0 : (y16.alloc (.cells #[.string ⟨#[97]⟩] 9)).heap[y16.heap.size]? = some (.cells #[.string ⟨#[97]⟩] 9) := at_newP rfl
  replace x16_0 := Lib.hid (keepB hy x16_0)
  replace xp := Lib.hid (keepB hv xp.out)
  replace x5_0 := Lib.hid (keepB hv x5_0.out)
  replace x5_1 := Lib.hid (keepB hv x5_1.out)
  replace x5_2 := Lib.hid (keepB hv x5_2.out)
  replace x9_0 := Lib.hid (keepB hv x9_0.out)
  replace x11_0 := Lib.hid (keepB hv x11_0.out)
  replace x12_0 := Lib.hid (keepB hv x12_0.out)
  replace x13_0 := Lib.hid (keepB hv x13_0.out)
  replace hb := Lib.hid (hb.out.trans (hv.mono hb.out.size))
  replace hrp := Lib.hid (RdE.below (fun _ _ h => h.below hv) hrp.out hv)
  clear hv hy hu
  generalize y16.heap.size = z16 at *
  go_wp2_with fail
  refine in_any.mono ?_
  rintro e y18 ⟨rfl, hy⟩
  have hv := hy
  replace xp := Lib.hid (keepB hv xp.out)
  replace x5_0 := Lib.hid (keepB hv x5_0.out)
  replace x5_1 := Lib.hid (keepB hv x5_1.out)
  replace x5_2 := Lib.hid (keepB hv x5_2.out)
  replace x9_0 := Lib.hid (keepB hv x9_0.out)
  replace x11_0 := Lib.hid (keepB hv x11_0.out)
  replace x12_0 := Lib.hid (keepB hv x12_0.out)
  replace x13_0 := Lib.hid (keepB hv x13_0.out)
  replace x16_0 := Lib.hid (keepB hv x16_0.out)
  replace hb := Lib.hid (hb.out.trans (hv.mono hb.out.size))
  replace hrp := Lib.hid (RdE.below (fun _ _ h => h.below hv) hrp.out hv)
  clear hv hy
  go_wp2_with fail
  refine in_any.mono ?_
  rintro e y19 ⟨rfl, hy⟩
  have hv := hy
  replace xp := Lib.hid (keepB hv xp.out)
  replace x5_0 := Lib.hid (keepB hv x5_0.out)
  replace x5_1 := Lib.hid (keepB hv x5_1.out)
  replace x5_2 := Lib.hid (keepB hv x5_2.out)
  replace x9_0 := Lib.hid (keepB hv x9_0.out)
  replace x11_0 := Lib.hid (keepB hv x11_0.out)
  replace x12_0 := Lib.hid (keepB hv x12_0.out)
  replace x13_0 := Lib.hid (keepB hv x13_0.out)
  replace x16_0 := Lib.hid (keepB hv x16_0.out)
  replace hb := Lib.hid (hb.out.trans (hv.mono hb.out.size))
  replace hrp := Lib.hid (RdE.below (fun _ _ h => h.below hv) hrp.out hv)
  clear hv hy
  have hu : Below y19.heap.size y19 (((((y19.alloc (.cells #[.int .u8 6, .string ⟨#[104]⟩, .string ⟨#[]⟩, .string ⟨#[]⟩, .int .i64 0, .string ⟨#[]⟩, .slice (some ⟨z5 + 1, 0, none⟩) 2 2, .slice (some ⟨z5 + 1 + 1, 0, none⟩) 2 2, .int .u8 7, .string ⟨#[100]⟩, .string ⟨#[120]⟩, .string ⟨#[]⟩, .int .i64 1, .string ⟨#[]⟩, .slice none 0 0, .slice none 0 0, .int .u8 8, .string ⟨#[108]⟩, .string ⟨#[100]⟩, .string ⟨#[]⟩, .int .i64 0, .string ⟨#[]⟩, .slice none 0 0, .slice none 0 0, .int .u8 9, .string ⟨#[]⟩, .string ⟨#[120]⟩, .string ⟨#[108]⟩, .int .i64 0, .string ⟨#[]⟩, .slice none 0 0, .slice none 0 0, .int .u8 10, .string ⟨#[114]⟩, .string ⟨#[]⟩, .string ⟨#[]⟩, .int .i64 0, .string ⟨#[109, 97, 105, 110]⟩, .slice (some ⟨z9, 0, none⟩) 2 2, .slice none 0 0, .int .u8 10, .string ⟨#[]⟩, .string ⟨#[]⟩, .string ⟨#[]⟩, .int .i64 0, .string ⟨#[109, 97, 105, 110]⟩, .slice none 0 0, .slice none 0 0, .int .u8 11, .string ⟨#[105]⟩, .string ⟨#[102]⟩, .string ⟨#[]⟩, .int .i64 0, .string ⟨#[]⟩, .slice (some ⟨z11, 0, none⟩) 1 1, .slice none 0 0, .int .u8 11, .string ⟨#[]⟩, .string ⟨#[102]⟩, .string ⟨#[]⟩, .int .i64 0, .string ⟨#[]⟩, .slice (some ⟨z12, 0, none⟩) 2 2, .slice none 0 0, .int .u8 12, .string ⟨#[]⟩, .string ⟨#[]⟩, .string ⟨#[]⟩, .int .i64 0, .string ⟨#[]⟩, .slice none 0 0, .slice (some ⟨z13, 0, none⟩) 2 2, .int .u8 5, .string ⟨#[114, 101, 116]⟩, .string ⟨#[114, 101, 116]⟩, .string ⟨#[]⟩, .int .i64 0, .string ⟨#[]⟩, .slice none 0 0, .slice none 0 0, .int .u8 3, .string ⟨#[103, 111, 116, 111]⟩, .string ⟨#[]⟩, .string ⟨#[]⟩, .int .i64 0, .string ⟨#[]⟩, .slice none 0 0, .slice none 0 0, .int .u8 13, .string ⟨#[]⟩, .string ⟨#[]⟩, .string ⟨#[]⟩, .int .i64 0, .string ⟨#[]⟩, .slice none 0 0, .slice (some ⟨z16, 0, none⟩) 1 1, .int .u8 14, .string ⟨#[]⟩, .string ⟨#[120]⟩, .string ⟨#[]⟩, .int .i64 0, .string ⟨#[]⟩, .slice none 0 0, .slice none 0 0, .int .u8 14, .string ⟨#[]⟩, .string ⟨#[]⟩, .string ⟨#[]⟩, .int .i64 0, .string ⟨#[]⟩, .slice none 0 0, .slice none 0 0] 49)).alloc (.cells #[.string ⟨#[112]⟩, .string ⟨#[113]⟩] 9)).alloc (.cells #[.string ⟨#[97]⟩, .slice (some ⟨z5, 0, none⟩) 5 5, .string ⟨#[98]⟩, .slice (some ⟨y19.heap.size, 0, none⟩) 14 14, .string ⟨#[114, 101, 116]⟩, .slice none 0 0] 46)).alloc (.cells #[.string ⟨#[109, 97, 105, 110]⟩, .slice (some ⟨y19.heap.size + 1, 0, none⟩) 2 2, .slice (some ⟨y19.heap.size + 1 + 1, 0, none⟩) 3 3, .string ⟨#[110, 117, 108, 108]⟩, .slice none 0 0, .slice none 0 0] 43)).alloc (.cells #[.slice (some ⟨y19.heap.size + 1 + 1 + 1, 0, none⟩) 2 2] 24)) := ((((((Below.refl _ _).alloc (by simp) _).alloc (by simp) _).alloc (by simp; omega) _).alloc (by simp; omega) _).alloc (by simp; omega) _)
  have v0 : (((((y19.alloc (.cells #[.int .u8 6, .string ⟨#[104]⟩, .string ⟨#[]⟩, .string ⟨#[]⟩, .int .i64 0, .string ⟨#[]⟩, .slice (some ⟨z5 + 1, 0, none⟩) 2 2, .slice (some ⟨z5 + 1 + 1, 0, none⟩) 2 2, .int .u8 7, .string ⟨#[100]⟩, .string ⟨#[120]⟩, .string ⟨#[]⟩, .int .i64 1, .string ⟨#[]⟩, .slice none 0 0, .slice none 0 0, .int .u8 8, .string ⟨#[108]⟩, .string ⟨#[100]⟩, .string ⟨#[]⟩, .int .i64 0, .string ⟨#[]⟩, .slice none 0 0, .slice none 0 0, .int .u8 9, .string ⟨#[]⟩, .string ⟨#[120]⟩, .string ⟨#[108]⟩, .int .i64 0, .string ⟨#[]⟩, .slice none 0 0, .slice none 0 0, .int .u8 10, .string ⟨#[114]⟩, .string ⟨#[]⟩, .string ⟨#[]⟩, .int .i64 0, .string ⟨#[109, 97, 105, 110]⟩, .slice (some ⟨z9, 0, none⟩) 2 2, .slice none 0 0, .int .u8 10, .string ⟨#[]⟩, .string ⟨#[]⟩, .string ⟨#[]⟩, .int .i64 0, .string ⟨#[109, 97, 105, 110]⟩, .slice none 0 0, .slice none 0 0, .int .u8 11, .string ⟨#[105]⟩, .string ⟨#[102]⟩, .string ⟨#[]⟩, .int .i64 0, .string ⟨#[]⟩, .slice (some ⟨z11, 0, none⟩) 1 1, .slice none 0 0, .int .u8 11, .string ⟨#[]⟩, .string ⟨#[102]⟩, .string ⟨#[]⟩, .int .i64 0, .string ⟨#[]⟩, .slice (some ⟨z12, 0, none⟩) 2 2, .slice none 0 0, .int .u8 12, .string ⟨#[]⟩, .string ⟨#[]⟩, .string ⟨#[]⟩, .int .i64 0, .string ⟨#[]⟩, .slice none 0 0, .slice (some ⟨z13, 0, none⟩) 2 2, .int .u8 5, .string ⟨#[114, 101, 116]⟩, .string ⟨#[114, 101, 116]⟩, .string ⟨#[]⟩, .int .i64 0, .string ⟨#[]⟩, .slice none 0 0, .slice none 0 0, .int .u8 3, .string ⟨#[103, 111, 116, 111]⟩, .string ⟨#[]⟩, .string ⟨#[]⟩, .int .i64 0, .string ⟨#[]⟩, .slice none 0 0, .slice none 0 0, .int .u8 13, .string ⟨#[]⟩, .string ⟨#[]⟩, .string ⟨#[]⟩, .int .i64 0, .string ⟨#[]⟩, .slice none 0 0, .slice (some ⟨z16, 0, none⟩) 1 1, .int .u8 14, .string ⟨#[]⟩, .string ⟨#[120]⟩, .string ⟨#[]⟩, .int .i64 0, .string ⟨#[]⟩, .slice none 0 0, .slice none 0 0, .int .u8 14, .string ⟨#[]⟩, .string ⟨#[]⟩, .string ⟨#[]⟩, .int .i64 0, .string ⟨#[]⟩, .slice none 0 0, .slice none 0 0] 49)).alloc (.cells #[.string ⟨#[112]⟩, .string ⟨#[113]⟩] 9)).alloc (.cells #[.string ⟨#[97]⟩, .slice (some ⟨z5, 0, none⟩) 5 5, .string ⟨#[98]⟩, .slice (some ⟨y19.heap.size, 0, none⟩) 14 14, .string ⟨#[114, 101, 116]⟩, .slice none 0 0] 46)).alloc (.cells #[.string ⟨#[109, 97, 105, 110]⟩, .slice (some ⟨y19.heap.size + 1, 0, none⟩) 2 2, .slice (some ⟨y19.heap.size + 1 + 1, 0, none⟩) 3 3, .string ⟨#[110, 117, 108, 108]⟩, .slice none 0 0, .slice none 0 0] 43)).alloc (.cells #[.slice (some ⟨y19.heap.size + 1 + 1 + 1, 0, none⟩) 2 2] 24)).heap[y19.heap.size]? = some (.cells #[.int .u8 6, .string ⟨#[104]⟩, .string ⟨#[]⟩, .string ⟨#[]⟩, .int .i64 0, .string ⟨#[]⟩, .slice (some ⟨z5 + 1, 0, none⟩) 2 2, .slice (some ⟨z5 + 1 + 1, 0, none⟩) 2 2, .int .u8 7, .string ⟨#[100]⟩, .string ⟨#[120]⟩, .string ⟨#[]⟩, .int .i64 1, .string ⟨#[]⟩, .slice none 0 0, .slice none 0 0, .int .u8 8, .string ⟨#[108]⟩, .string ⟨#[100]⟩, .string ⟨#[]⟩, .int .i64 0, .string ⟨#[]⟩, .slice none 0 0, .slice none 0 0, .int .u8 9, .string ⟨#[]⟩, .string ⟨#[120]⟩, .string ⟨#[108]⟩, .int .i64 0, .string ⟨#[]⟩, .slice none 0 0, .slice none 0 0, .int .u8 10, .string ⟨#[114]⟩, .string ⟨#[]⟩, .string ⟨#[]⟩, .int .i64 0, .string ⟨#[109, 97, 105, 110]⟩, .slice (some ⟨z9, 0, none⟩) 2 2, .slice none 0 0, .int .u8 10, .string ⟨#[]⟩, .string ⟨#[]⟩, .string ⟨#[]⟩, .int .i64 0, .string ⟨#[109, 97, 105, 110]⟩, .slice none 0 0, .slice none 0 0, .int .u8 11, .string ⟨#[105]⟩, .string ⟨#[102]⟩, .string ⟨#[]⟩, .int .i64 0, .string ⟨#[]⟩, .slice (some ⟨z11, 0, none⟩) 1 1, .slice none 0 0, .int .u8 11, .string ⟨#[]⟩, .string ⟨#[102]⟩, .string ⟨#[]⟩, .int .i64 0, .string ⟨#[]⟩, .slice (some ⟨z12, 0, none⟩) 2 2, .slice none 0 0, .int .u8 12, .string ⟨#[]⟩, .string ⟨#[]⟩, .string ⟨#[]⟩, .int .i64 0, .string ⟨#[]⟩, .slice none 0 0, .slice (some ⟨z13, 0, none⟩) 2 2, .int .u8 5, .string ⟨#[114, 101, 116]⟩, .string ⟨#[114, 101, 116]⟩, .string ⟨#[]⟩, .int .i64 0, .string ⟨#[]⟩, .slice none 0 0, .slice none 0 0, .int .u8 3, .string ⟨#[103, 111, 116, 111]⟩, .string ⟨#[]⟩, .string ⟨#[]⟩, .int .i64 0, .string ⟨#[]⟩, .slice none 0 0, .slice none 0 0, .int .u8 13, .string ⟨#[]⟩, .string ⟨#[]⟩, .string ⟨#[]⟩, .int .i64 0, .string ⟨#[]⟩, .slice none 0 0, .slice (some ⟨z16, 0, none⟩) 1 1, .int .u8 14, .string ⟨#[]⟩, .string ⟨#[120]⟩, .string ⟨#[]⟩, .int .i64 0, .string ⟨#[]⟩, .slice none 0 0, .slice none 0 0, .int .u8 14, .string ⟨#[]⟩, .string ⟨#[]⟩, .string ⟨#[]⟩, .int .i64 0, .string ⟨#[]⟩, .slice none 0 0, .slice none 0 0] 49) := at_oldP (at_oldP (at_oldP (at_oldP (at_newP rfl))))
  have v1 : (((((y19.alloc (.cells #[.int .u8 6, .string ⟨#[104]⟩, .string ⟨#[]⟩, .string ⟨#[]⟩, .int .i64 0, .string ⟨#[]⟩, .slice (some ⟨z5 + 1, 0, none⟩) 2 2, .slice (some ⟨z5 + 1 + 1, 0, none⟩) 2 2, .int .u8 7, .string ⟨#[100]⟩, .string ⟨#[120]⟩, .string ⟨#[]⟩, .int .i64 1, .string ⟨#[]⟩, .slice none 0 0, .slice none 0 0, .int .u8 8, .string ⟨#[108]⟩, .string ⟨#[100]⟩, .string ⟨#[]⟩, .int .i64 0, .string ⟨#[]⟩, .slice none 0 0, .slice none 0 0, .int .u8 9, .string ⟨#[]⟩, .string ⟨#[120]⟩, .string ⟨#[108]⟩, .int .i64 0, .string ⟨#[]⟩, .slice none 0 0, .slice none 0 0, .int .u8 10, .string ⟨#[114]⟩, .string ⟨#[]⟩, .string ⟨#[]⟩, .int .i64 0, .string ⟨#[109, 97, 105, 110]⟩, .slice (some ⟨z9, 0, none⟩) 2 2, .slice none 0 0, .int .u8 10, .string ⟨#[]⟩, .string ⟨#[]⟩, .string ⟨#[]⟩, .int .i64 0, .string ⟨#[109, 97, 105, 110]⟩, .slice none 0 0, .slice none 0 0, .int .u8 11, .string ⟨#[105]⟩, .string ⟨#[102]⟩, .string ⟨#[]⟩, .int .i64 0, .string ⟨#[]⟩, .slice (some ⟨z11, 0, none⟩) 1 1, .slice none 0 0, .int .u8 11, .string ⟨#[]⟩, .string ⟨#[102]⟩, .string ⟨#[]⟩, .int .i64 0, .string ⟨#[]⟩, .slice (some ⟨z12, 0, none⟩) 2 2, .slice none 0 0, .int .u8 12, .string ⟨#[]⟩, .string ⟨#[]⟩, .string ⟨#[]⟩, .int .i64 0, .string ⟨#[]⟩, .slice none 0 0, .slice (some ⟨z13, 0, none⟩) 2 2, .int .u8 5, .string ⟨#[114, 101, 116]⟩, .string ⟨#[114, 101, 116]⟩, .string ⟨#[]⟩, .int .i64 0, .string ⟨#[]⟩, .slice none 0 0, .slice none 0 0, .int .u8 3, .string ⟨#[103, 111, 116, 111]⟩, .string ⟨#[]⟩, .string ⟨#[]⟩, .int .i64 0, .string ⟨#[]⟩, .slice none 0 0, .slice none 0 0, .int .u8 13, .string ⟨#[]⟩, .string ⟨#[]⟩, .string ⟨#[]⟩, .int .i64 0, .string ⟨#[]⟩, .slice none 0 0, .slice (some ⟨z16, 0, none⟩) 1 1, .int .u8 14, .string ⟨#[]⟩, .string ⟨#[120]⟩, .string ⟨#[]⟩, .int .i64 0, .string ⟨#[]⟩, .slice none 0 0, .slice none 0 0, .int .u8 14, .string ⟨#[]⟩, .string ⟨#[]⟩, .string ⟨#[]⟩, .int .i64 0, .string ⟨#[]⟩, .slice none 0 0, .slice none 0 0] 49)).alloc (.cells #[.string ⟨#[112]⟩, .string ⟨#[113]⟩] 9)).alloc (.cells #[.string ⟨#[97]⟩, .slice (some ⟨z5, 0, none⟩) 5 5, .string ⟨#[98]⟩, .slice (some ⟨y19.heap.size, 0, none⟩) 14 14, .string ⟨#[114, 101, 116]⟩, .slice none 0 0] 46)).alloc (.cells #[.string ⟨#[109, 97, 105, 110]⟩, .slice (some ⟨y19.heap.size + 1, 0, none⟩) 2 2, .slice (some ⟨y19.heap.size + 1 + 1, 0, none⟩) 3 3, .string ⟨#[110, 117, 108, 108]⟩, .slice none 0 0, .slice none 0 0] 43)).alloc (.cells #[.slice (some ⟨y19.heap.size + 1 + 1 + 1, 0, none⟩) 2 2] 24)).heap[y19.heap.size + 1]? = some (.cells #[.string ⟨#[112]⟩, .string ⟨#[113]⟩] 9) := at_oldP (at_oldP (at_oldP (at_newP (by simp))))
  have v2 : (((((y19.alloc (.cells #[.int .u8 6, .string ⟨#[104]⟩, .string ⟨#[]⟩, .string ⟨#[]⟩, .int .i64 0, .string ⟨#[]⟩, .slice (some ⟨z5 + 1, 0, none⟩) 2 2, .slice (some ⟨z5 + 1 + 1, 0, none⟩) 2 2, .int .u8 7, .string ⟨#[100]⟩, .string ⟨#[120]⟩, .string ⟨#[]⟩, .int .i64 1, .string ⟨#[]⟩, .slice none 0 0, .slice none 0 0, .int .u8 8, .string ⟨#[108]⟩, .string ⟨#[100]⟩, .string ⟨#[]⟩, .int .i64 0, .string ⟨#[]⟩, .slice none 0 0, .slice none 0 0, .int .u8 9, .string ⟨#[]⟩, .string ⟨#[120]⟩, .string ⟨#[108]⟩, .int .i64 0, .string ⟨#[]⟩, .slice none 0 0, .slice none 0 0, .int .u8 10, .string ⟨#[114]⟩, .string ⟨#[]⟩, .string ⟨#[]⟩, .int .i64 0, .string ⟨#[109, 97, 105, 110]⟩, .slice (some ⟨z9, 0, none⟩) 2 2, .slice none 0 0, .int .u8 10, .string ⟨#[]⟩, .string ⟨#[]⟩, .string ⟨#[]⟩, .int .i64 0, .string ⟨#[109, 97, 105, 110]⟩, .slice none 0 0, .slice none 0 0, .int .u8 11, .string ⟨#[105]⟩, .string ⟨#[102]⟩, .string ⟨#[]⟩, .int .i64 0, .string ⟨#[]⟩, .slice (some ⟨z11, 0, none⟩) 1 1, .slice none 0 0, .int .u8 11, .string ⟨#[]⟩, .string ⟨#[102]⟩, .string ⟨#[]⟩, .int .i64 0, .string ⟨#[]⟩, .slice (some ⟨z12, 0, none⟩) 2 2, .slice none 0 0, .int .u8 12, .string ⟨#[]⟩, .string ⟨#[]⟩, .string ⟨#[]⟩, .int .i64 0, .string ⟨#[]⟩, .slice none 0 0, .slice (some ⟨z13, 0, none⟩) 2 2, .int .u8 5, .string ⟨#[114, 101, 116]⟩, .string ⟨#[114, 101, 116]⟩, .string ⟨#[]⟩, .int .i64 0, .string ⟨#[]⟩, .slice none 0 0, .slice none 0 0, .int .u8 3, .string ⟨#[103, 111, 116, 111]⟩, .string ⟨#[]⟩, .string ⟨#[]⟩, .int .i64 0, .string ⟨#[]⟩, .slice none 0 0, .slice none 0 0, .int .u8 13, .string ⟨#[]⟩, .string ⟨#[]⟩, .string ⟨#[]⟩, .int .i64 0, .string ⟨#[]⟩, .slice none 0 0, .slice (some ⟨z16, 0, none⟩) 1 1, .int .u8 14, .string ⟨#[]⟩, .string ⟨#[120]⟩, .string ⟨#[]⟩, .int .i64 0, .string ⟨#[]⟩, .slice none 0 0, .slice none 0 0, .int .u8 14, .string ⟨#[]⟩, .string ⟨#[]⟩, .string ⟨#[]⟩, .int .i64 0, .string ⟨#[]⟩, .slice none 0 0, .slice none 0 0] 49)).alloc (.cells #[.string ⟨#[112]⟩, .string ⟨#[113]⟩] 9)).alloc (.cells #[.string ⟨#[97]⟩, .slice (some ⟨z5, 0, none⟩) 5 5, .string ⟨#[98]⟩, .slice (some ⟨y19.heap.size, 0, none⟩) 14 14, .string ⟨#[114, 101, 116]⟩, .slice none 0 0] 46)).alloc (.cells #[.string ⟨#[109, 97, 105, 110]⟩, .slice (some ⟨y19.heap.size + 1, 0, none⟩) 2 2, .slice (some ⟨y19.heap.size + 1 + 1, 0, none⟩) 3 3, .string ⟨#[110, 117, 108, 108]⟩, .slice none 0 0, .slice none 0 0] 43)).alloc (.cells #[.slice (some ⟨y19.heap.size + 1 + 1 + 1, 0, none⟩) 2 2] 24)).heap[y19.heap.size + 1 + 1]? = some (.cells #[.string ⟨#[97]⟩, .slice (some ⟨z5, 0, none⟩) 5 5, .string ⟨#[98]⟩, .slice (some ⟨y19.heap.size, 0, none⟩) 14 14, .string ⟨#[114, 101, 116]⟩, .slice none 0 0] 46) := at_oldP (at_oldP (at_newP (by simp)))
  have v3 : (((((y19.alloc (.cells #[.int .u8 6, .string ⟨#[104]⟩, .string ⟨#[]⟩, .string ⟨#[]⟩, .int .i64 0, .string ⟨#[]⟩, .slice (some ⟨z5 + 1, 0, none⟩) 2 2, .slice (some ⟨z5 + 1 + 1, 0, none⟩) 2 2, .int .u8 7, .string ⟨#[100]⟩, .string ⟨#[120]⟩, .string ⟨#[]⟩, .int .i64 1, .string ⟨#[]⟩, .slice none 0 0, .slice none 0 0, .int .u8 8, .string ⟨#[108]⟩, .string ⟨#[100]⟩, .string ⟨#[]⟩, .int .i64 0, .string ⟨#[]⟩, .slice none 0 0, .slice none 0 0, .int .u8 9, .string ⟨#[]⟩, .string ⟨#[120]⟩, .string ⟨#[108]⟩, .int .i64 0, .string ⟨#[]⟩, .slice none 0 0, .slice none 0 0, .int .u8 10, .string ⟨#[114]⟩, .string ⟨#[]⟩, .string ⟨#[]⟩, .int .i64 0, .string ⟨#[109, 97, 105, 110]⟩, .slice (some ⟨z9, 0, none⟩) 2 2, .slice none 0 0, .int .u8 10, .string ⟨#[]⟩, .string ⟨#[]⟩, .string ⟨#[]⟩, .int .i64 0, .string ⟨#[109, 97, 105, 110]⟩, .slice none 0 0, .slice none 0 0, .int .u8 11, .string ⟨#[105]⟩, .string ⟨#[102]⟩, .string ⟨#[]⟩, .int .i64 0, .string ⟨#[]⟩, .slice (some ⟨z11, 0, none⟩) 1 1, .slice none 0 0, .int .u8 11, .string ⟨#[]⟩, .string ⟨#[102]⟩, .string ⟨#[]⟩, .int .i64 0, .string ⟨#[]⟩, .slice (some ⟨z12, 0, none⟩) 2 2, .slice none 0 0, .int .u8 12, .string ⟨#[]⟩, .string ⟨#[]⟩, .string ⟨#[]⟩, .int .i64 0, .string ⟨#[]⟩, .slice none 0 0, .slice (some ⟨z13, 0, none⟩) 2 2, .int .u8 5, .string ⟨#[114, 101, 116]⟩, .string ⟨#[114, 101, 116]⟩, .string ⟨#[]⟩, .int .i64 0, .string ⟨#[]⟩, .slice none 0 0, .slice none 0 0, .int .u8 3, .string ⟨#[103, 111, 116, 111]⟩, .string ⟨#[]⟩, .string ⟨#[]⟩, .int .i64 0, .string ⟨#[]⟩, .slice none 0 0, .slice none 0 0, .int .u8 13, .string ⟨#[]⟩, .string ⟨#[]⟩, .string ⟨#[]⟩, .int .i64 0, .string ⟨#[]⟩, .slice none 0 0, .slice (some ⟨z16, 0, none⟩) 1 1, .int .u8 14, .string ⟨#[]⟩, .string ⟨#[120]⟩, .string ⟨#[]⟩, .int .i64 0, .string ⟨#[]⟩, .slice none 0 0, .slice none 0 0, .int .u8 14, .string ⟨#[]⟩, .string ⟨#[]⟩, .string ⟨#[]⟩, .int .i64 0, .string ⟨#[]⟩, .slice none 0 0, .slice none 0 0] 49)).alloc (.cells #[.string ⟨#[112]⟩, .string ⟨#[113]⟩] 9)).alloc (.cells #[.string ⟨#[97]⟩, .slice (some ⟨z5, 0, none⟩) 5 5, .string ⟨#[98]⟩, .slice (some ⟨y19.heap.size, 0, none⟩) 14 14, .string ⟨#[114, 101, 116]⟩, .slice none 0 0] 46)).alloc (.cells #[.string ⟨#[109, 97, 105, 110]⟩, .slice (some ⟨y19.heap.size + 1, 0, none⟩) 2 2, .slice (some ⟨y19.heap.size + 1 + 1, 0, none⟩) 3 3, .string ⟨#[110, 117, 108, 108]⟩, .slice none 0 0, .slice none 0 0] 43)).alloc (.cells #[.slice (some ⟨y19.heap.size + 1 + 1 + 1, 0, none⟩) 2 2] 24)).heap[y19.heap.size + 1 + 1 + 1]? = some (.cells #[.string ⟨#[109, 97, 105, 110]⟩, .slice (some ⟨y19.heap.size + 1, 0, none⟩) 2 2, .slice (some ⟨y19.heap.size + 1 + 1, 0, none⟩) 3 3, .string ⟨#[110, 117, 108, 108]⟩, .slice none 0 0, .slice none 0 0] 43) := at_oldP (at_newP (by simp))
  have v4 : (((((y19.alloc (.cells #[.int .u8 6, .string ⟨#[104]⟩, .string ⟨#[]⟩, .string ⟨#[]⟩, .int .i64 0, .string ⟨#[]⟩, .slice (some ⟨z5 + 1, 0, none⟩) 2 2, .slice (some ⟨z5 + 1 + 1, 0, none⟩) 2 2, .int .u8 7, .string ⟨#[100]⟩, .string ⟨#[120]⟩, .string ⟨#[]⟩, .int .i64 1, .string ⟨#[]⟩, .slice none 0 0, .slice none 0 0, .int .u8 8, .string ⟨#[108]⟩, .string ⟨#[100]⟩, .string ⟨#[]⟩, .int .i64 0, .string ⟨#[]⟩, .slice none 0 0, .slice none 0 0, .int .u8 9, .string ⟨#[]⟩, .string ⟨#[120]⟩, .string ⟨#[108]⟩, .int .i64 0, .string ⟨#[]⟩, .slice none 0 0, .slice none 0 0, .int .u8 10, .string ⟨#[114]⟩, .string ⟨#[]⟩, .string ⟨#[]⟩, .int .i64 0, .string ⟨#[109, 97, 105, 110]⟩, .slice (some ⟨z9, 0, none⟩) 2 2, .slice none 0 0, .int .u8 10, .string ⟨#[]⟩, .string ⟨#[]⟩, .string ⟨#[]⟩, .int .i64 0, .string ⟨#[109, 97, 105, 110]⟩, .slice none 0 0, .slice none 0 0, .int .u8 11, .string ⟨#[105]⟩, .string ⟨#[102]⟩, .string ⟨#[]⟩, .int .i64 0, .string ⟨#[]⟩, .slice (some ⟨z11, 0, none⟩) 1 1, .slice none 0 0, .int .u8 11, .string ⟨#[]⟩, .string ⟨#[102]⟩, .string ⟨#[]⟩, .int .i64 0, .string ⟨#[]⟩, .slice (some ⟨z12, 0, none⟩) 2 2, .slice none 0 0, .int .u8 12, .string ⟨#[]⟩, .string ⟨#[]⟩, .string ⟨#[]⟩, .int .i64 0, .string ⟨#[]⟩, .slice none 0 0, .slice (some ⟨z13, 0, none⟩) 2 2, .int .u8 5, .string ⟨#[114, 101, 116]⟩, .string ⟨#[114, 101, 116]⟩, .string ⟨#[]⟩, .int .i64 0, .string ⟨#[]⟩, .slice none 0 0, .slice none 0 0, .int .u8 3, .string ⟨#[103, 111, 116, 111]⟩, .string ⟨#[]⟩, .string ⟨#[]⟩, .int .i64 0, .string ⟨#[]⟩, .slice none 0 0, .slice none 0 0, .int .u8 13, .string ⟨#[]⟩, .string ⟨#[]⟩, .string ⟨#[]⟩, .int .i64 0, .string ⟨#[]⟩, .slice none 0 0, .slice (some ⟨z16, 0, none⟩) 1 1, .int .u8 14, .string ⟨#[]⟩, .string ⟨#[120]⟩, .string ⟨#[]⟩, .int .i64 0, .string ⟨#[]⟩, .slice none 0 0, .slice none 0 0, .int .u8 14, .string ⟨#[]⟩, .string ⟨#[]⟩, .string ⟨#[]⟩, .int .i64 0, .string ⟨#[]⟩, .slice none 0 0, .slice none 0 0] 49)).alloc (.cells #[.string ⟨#[112]⟩, .string ⟨#[113]⟩] 9)).alloc (.cells #[.string ⟨#[97]⟩, .slice (some ⟨z5, 0, none⟩) 5 5, .string ⟨#[98]⟩, .slice (some ⟨y19.heap.size, 0, none⟩) 14 14, .string ⟨#[114, 101, 116]⟩, .slice none 0 0] 46)).alloc (.cells #[.string ⟨#[109, 97, 105, 110]⟩, .slice (some ⟨y19.heap.size + 1, 0, none⟩) 2 2, .slice (some ⟨y19.heap.size + 1 + 1, 0, none⟩) 3 3, .string ⟨#[110, 117, 108, 108]⟩, .slice none 0 0, .slice none 0 0] 43)).alloc (.cells #[.slice (some ⟨y19.heap.size + 1 + 1 + 1, 0, none⟩) 2 2] 24)).heap[y19.heap.size + 1 + 1 + 1 + 1]? = some (.cells #[.slice (some ⟨y19.heap.size + 1 + 1 + 1, 0, none⟩) 2 2] 24) := at_newP (by simp)
  obtain ⟨W9, hW9⟩ : ∃ W9, W9 = (((((y19.alloc (.cells #[.int .u8 6, .string ⟨#[104]⟩, .string ⟨#[]⟩, .string ⟨#[]⟩, .int .i64 0, .string ⟨#[]⟩, .slice (some ⟨z5 + 1, 0, none⟩) 2 2, .slice (some ⟨z5 + 1 + 1, 0, none⟩) 2 2, .int .u8 7, .string ⟨#[100]⟩, .string ⟨#[120]⟩, .string ⟨#[]⟩, .int .i64 1, .string ⟨#[]⟩, .slice none 0 0, .slice none 0 0, .int .u8 8, .string ⟨#[108]⟩, .string ⟨#[100]⟩, .string ⟨#[]⟩, .int .i64 0, .string ⟨#[]⟩, .slice none 0 0, .slice none 0 0, .int .u8 9, .string ⟨#[]⟩, .string ⟨#[120]⟩, .string ⟨#[108]⟩, .int .i64 0, .string ⟨#[]⟩, .slice none 0 0, .slice none 0 0, .int .u8 10, .string ⟨#[114]⟩, .string ⟨#[]⟩, .string ⟨#[]⟩, .int .i64 0, .string ⟨#[109, 97, 105, 110]⟩, .slice (some ⟨z9, 0, none⟩) 2 2, .slice none 0 0, .int .u8 10, .string ⟨#[]⟩, .string ⟨#[]⟩, .string ⟨#[]⟩, .int .i64 0, .string ⟨#[109, 97, 105, 110]⟩, .slice none 0 0, .slice none 0 0, .int .u8 11, .string ⟨#[105]⟩, .string ⟨#[102]⟩, .string ⟨#[]⟩, .int .i64 0, .string ⟨#[]⟩, .slice (some ⟨z11, 0, none⟩) 1 1, .slice none 0 0, .int .u8 11, .string ⟨#[]⟩, .string ⟨#[102]⟩, .string ⟨#[]⟩, .int .i64 0, .string ⟨#[]⟩, .slice (some ⟨z12, 0, none⟩) 2 2, .slice none 0 0, .int .u8 12, .string ⟨#[]⟩, .string ⟨#[]⟩, .string ⟨#[]⟩, .int .i64 0, .string ⟨#[]⟩, .slice none 0 0, .slice (some ⟨z13, 0, none⟩) 2 2, .int .u8 5, .string ⟨#[114, 101, 116]⟩, .string ⟨#[114, 101, 116]⟩, .string ⟨#[]⟩, .int .i64 0, .string ⟨#[]⟩, .slice none 0 0, .slice none 0 0, .int .u8 3, .string ⟨#[103, 111, 116, 111]⟩, .string ⟨#[]⟩, .string ⟨#[]⟩, .int .i64 0, .string ⟨#[]⟩, .slice none 0 0, .slice none 0 0, .int .u8 13, .string ⟨#[]⟩, .string ⟨#[]⟩, .string ⟨#[]⟩, .int .i64 0, .string ⟨#[]⟩, .slice none 0 0, .slice (some ⟨z16, 0, none⟩) 1 1, .int .u8 14, .string ⟨#[]⟩, .string ⟨#[120]⟩, .string ⟨#[]⟩, .int .i64 0, .string ⟨#[]⟩, .slice none 0 0, .slice none 0 0, .int .u8 14, .string ⟨#[]⟩, .string ⟨#[]⟩, .string ⟨#[]⟩, .int .i64 0, .string ⟨#[]⟩, .slice none 0 0, .slice none 0 0] 49)).alloc (.cells #[.string ⟨#[112]⟩, .string ⟨#[113]⟩] 9)).alloc (.cells #[.string ⟨#[97]⟩, .slice (some ⟨z5, 0, none⟩) 5 5, .string ⟨#[98]⟩, .slice (some ⟨y19.heap.size, 0, none⟩) 14 14, .string ⟨#[114, 101, 116]⟩, .slice none 0 0] 46)).alloc (.cells #[.string ⟨#[109, 97, 105, 110]⟩, .slice (some ⟨y19.heap.size + 1, 0, none⟩) 2 2, .slice (some ⟨y19.heap.size + 1 + 1, 0, none⟩) 3 3, .string ⟨#[110, 117, 108, 108]⟩, .slice none 0 0, .slice none 0 0] 43)).alloc (.cells #[.slice (some ⟨y19.heap.size + 1 + 1 + 1, 0, none⟩) 2 2] 24)) := ⟨_, rfl⟩
  rw [← hW9] at hu v0 v1 v2 v3 v4
  replace xp := keepB hu xp.out
  replace x5_0 := keepB hu x5_0.out
  replace x5_1 := keepB hu x5_1.out
  replace x5_2 := keepB hu x5_2.out
  replace x9_0 := keepB hu x9_0.out
  replace x11_0 := keepB hu x11_0.out
  replace x12_0 := keepB hu x12_0.out
  replace x13_0 := keepB hu x13_0.out
  replace x16_0 := keepB hu x16_0.out
  replace hb := Lib.hid (hb.out.trans (hu.mono hb.out.size))
  replace hrp := Lib.hid (RdE.below (fun _ _ h => h.below hu) hrp.out hu)
  have hF : RdE 8 RdIns W9 (.slice (some ⟨z5, 0, none⟩) 5 5) ([⟨1, ⟨#[120]⟩, ⟨#[]⟩, ⟨#[]⟩, 2, ⟨#[]⟩, [], []⟩, ⟨2, ⟨#[121]⟩, ⟨#[]⟩, ⟨#[]⟩, 1, ⟨#[]⟩, [], []⟩, ⟨3, ⟨#[122]⟩, ⟨#[]⟩, ⟨#[]⟩, 0, ⟨#[]⟩, [], []⟩, ⟨4, ⟨#[102]⟩, ⟨#[]⟩, ⟨#[]⟩, 0, ⟨#[109, 97, 105, 110]⟩, [], []⟩, ⟨5, ⟨#[99]⟩, ⟨#[110, 117, 108, 108]⟩, ⟨#[]⟩, 0, ⟨#[]⟩, [], []⟩] : List Ins) := rde_block (L := ([⟨1, ⟨#[120]⟩, ⟨#[]⟩, ⟨#[]⟩, 2, ⟨#[]⟩, [], []⟩, ⟨2, ⟨#[121]⟩, ⟨#[]⟩, ⟨#[]⟩, 1, ⟨#[]⟩, [], []⟩, ⟨3, ⟨#[122]⟩, ⟨#[]⟩, ⟨#[]⟩, 0, ⟨#[]⟩, [], []⟩, ⟨4, ⟨#[102]⟩, ⟨#[]⟩, ⟨#[]⟩, 0, ⟨#[109, 97, 105, 110]⟩, [], []⟩, ⟨5, ⟨#[99]⟩, ⟨#[110, 117, 108, 108]⟩, ⟨#[]⟩, 0, ⟨#[]⟩, [], []⟩] : List Ins)) [[.int .u8 1, .string ⟨#[120]⟩, .string ⟨#[]⟩, .string ⟨#[]⟩, .int .i64 2, .string ⟨#[]⟩, .slice none 0 0, .slice none 0 0], [.int .u8 2, .string ⟨#[121]⟩, .string ⟨#[]⟩, .string ⟨#[]⟩, .int .i64 1, .string ⟨#[]⟩, .slice none 0 0, .slice none 0 0], [.int .u8 3, .string ⟨#[122]⟩, .string ⟨#[]⟩, .string ⟨#[]⟩, .int .i64 0, .string ⟨#[]⟩, .slice none 0 0, .slice none 0 0], [.int .u8 4, .string ⟨#[102]⟩, .string ⟨#[]⟩, .string ⟨#[]⟩, .int .i64 0, .string ⟨#[109, 97, 105, 110]⟩, .slice none 0 0, .slice none 0 0], [.int .u8 5, .string ⟨#[99]⟩, .string ⟨#[110, 117, 108, 108]⟩, .string ⟨#[]⟩, .int .i64 0, .string ⟨#[]⟩, .slice none 0 0, .slice none 0 0]] x5_0 rfl (.cons ⟨⟨_, _, rfl, rds_nilK _, rds_nilK _⟩, rfl⟩ (.cons ⟨⟨_, _, rfl, rds_nilK _, rds_nilK _⟩, rfl⟩ (.cons ⟨⟨_, _, rfl, rds_nilK _, rds_nilK _⟩, rfl⟩ (.cons ⟨⟨_, _, rfl, rds_nilK _, rds_nilK _⟩, rfl⟩ (.cons ⟨⟨_, _, rfl, rds_nilK _, rds_nilK _⟩, rfl⟩ (.nil))))))
  have hS : RdE 8 RdIns W9 (.slice (some ⟨y19.heap.size, 0, none⟩) 14 14) ([⟨6, ⟨#[104]⟩, ⟨#[]⟩, ⟨#[]⟩, 0, ⟨#[]⟩, [⟨#[120]⟩, ⟨#[110, 117, 108, 108]⟩], [⟨#[97]⟩, ⟨#[98]⟩]⟩, ⟨7, ⟨#[100]⟩, ⟨#[120]⟩, ⟨#[]⟩, 1, ⟨#[]⟩, [], []⟩, ⟨8, ⟨#[108]⟩, ⟨#[100]⟩, ⟨#[]⟩, 0, ⟨#[]⟩, [], []⟩, ⟨9, ⟨#[]⟩, ⟨#[120]⟩, ⟨#[108]⟩, 0, ⟨#[]⟩, [], []⟩, ⟨10, ⟨#[114]⟩, ⟨#[]⟩, ⟨#[]⟩, 0, ⟨#[109, 97, 105, 110]⟩, [⟨#[112]⟩, ⟨#[120]⟩], []⟩, ⟨10, ⟨#[]⟩, ⟨#[]⟩, ⟨#[]⟩, 0, ⟨#[109, 97, 105, 110]⟩, [], []⟩, ⟨11, ⟨#[105]⟩, ⟨#[102]⟩, ⟨#[]⟩, 0, ⟨#[]⟩, [⟨#[110, 117, 108, 108]⟩], []⟩, ⟨11, ⟨#[]⟩, ⟨#[102]⟩, ⟨#[]⟩, 0, ⟨#[]⟩, [⟨#[97]⟩, ⟨#[98]⟩], []⟩, ⟨12, ⟨#[]⟩, ⟨#[]⟩, ⟨#[]⟩, 0, ⟨#[]⟩, [], [⟨#[97]⟩, ⟨#[98]⟩]⟩, ⟨5, ⟨#[114, 101, 116]⟩, ⟨#[114, 101, 116]⟩, ⟨#[]⟩, 0, ⟨#[]⟩, [], []⟩, ⟨3, ⟨#[103, 111, 116, 111]⟩, ⟨#[]⟩, ⟨#[]⟩, 0, ⟨#[]⟩, [], []⟩, ⟨13, ⟨#[]⟩, ⟨#[]⟩, ⟨#[]⟩, 0, ⟨#[]⟩, [], [⟨#[97]⟩]⟩, ⟨14, ⟨#[]⟩, ⟨#[120]⟩, ⟨#[]⟩, 0, ⟨#[]⟩, [], []⟩, ⟨14, ⟨#[]⟩, ⟨#[]⟩, ⟨#[]⟩, 0, ⟨#[]⟩, [], []⟩] : List Ins) := rde_block (L := ([⟨6, ⟨#[104]⟩, ⟨#[]⟩, ⟨#[]⟩, 0, ⟨#[]⟩, [⟨#[120]⟩, ⟨#[110, 117, 108, 108]⟩], [⟨#[97]⟩, ⟨#[98]⟩]⟩, ⟨7, ⟨#[100]⟩, ⟨#[120]⟩, ⟨#[]⟩, 1, ⟨#[]⟩, [], []⟩, ⟨8, ⟨#[108]⟩, ⟨#[100]⟩, ⟨#[]⟩, 0, ⟨#[]⟩, [], []⟩, ⟨9, ⟨#[]⟩, ⟨#[120]⟩, ⟨#[108]⟩, 0, ⟨#[]⟩, [], []⟩, ⟨10, ⟨#[114]⟩, ⟨#[]⟩, ⟨#[]⟩, 0, ⟨#[109, 97, 105, 110]⟩, [⟨#[112]⟩, ⟨#[120]⟩], []⟩, ⟨10, ⟨#[]⟩, ⟨#[]⟩, ⟨#[]⟩, 0, ⟨#[109, 97, 105, 110]⟩, [], []⟩, ⟨11, ⟨#[105]⟩, ⟨#[102]⟩, ⟨#[]⟩, 0, ⟨#[]⟩, [⟨#[110, 117, 108, 108]⟩], []⟩, ⟨11, ⟨#[]⟩, ⟨#[102]⟩, ⟨#[]⟩, 0, ⟨#[]⟩, [⟨#[97]⟩, ⟨#[98]⟩], []⟩, ⟨12, ⟨#[]⟩, ⟨#[]⟩, ⟨#[]⟩, 0, ⟨#[]⟩, [], [⟨#[97]⟩, ⟨#[98]⟩]⟩, ⟨5, ⟨#[114, 101, 116]⟩, ⟨#[114, 101, 116]⟩, ⟨#[]⟩, 0, ⟨#[]⟩, [], []⟩, ⟨3, ⟨#[103, 111, 116, 111]⟩, ⟨#[]⟩, ⟨#[]⟩, 0, ⟨#[]⟩, [], []⟩, ⟨13, ⟨#[]⟩, ⟨#[]⟩, ⟨#[]⟩, 0, ⟨#[]⟩, [], [⟨#[97]⟩]⟩, ⟨14, ⟨#[]⟩, ⟨#[120]⟩, ⟨#[]⟩, 0, ⟨#[]⟩, [], []⟩, ⟨14, ⟨#[]⟩, ⟨#[]⟩, ⟨#[]⟩, 0, ⟨#[]⟩, [], []⟩] : List Ins)) [[.int .u8 6, .string ⟨#[104]⟩, .string ⟨#[]⟩, .string ⟨#[]⟩, .int .i64 0, .string ⟨#[]⟩, .slice (some ⟨z5 + 1, 0, none⟩) 2 2, .slice (some ⟨z5 + 1 + 1, 0, none⟩) 2 2], [.int .u8 7, .string ⟨#[100]⟩, .string ⟨#[120]⟩, .string ⟨#[]⟩, .int .i64 1, .string ⟨#[]⟩, .slice none 0 0, .slice none 0 0], [.int .u8 8, .string ⟨#[108]⟩, .string ⟨#[100]⟩, .string ⟨#[]⟩, .int .i64 0, .string ⟨#[]⟩, .slice none 0 0, .slice none 0 0], [.int .u8 9, .string ⟨#[]⟩, .string ⟨#[120]⟩, .string ⟨#[108]⟩, .int .i64 0, .string ⟨#[]⟩, .slice none 0 0, .slice none 0 0], [.int .u8 10, .string ⟨#[114]⟩, .string ⟨#[]⟩, .string ⟨#[]⟩, .int .i64 0, .string ⟨#[109, 97, 105, 110]⟩, .slice (some ⟨z9, 0, none⟩) 2 2, .slice none 0 0], [.int .u8 10, .string ⟨#[]⟩, .string ⟨#[]⟩, .string ⟨#[]⟩, .int .i64 0, .string ⟨#[109, 97, 105, 110]⟩, .slice none 0 0, .slice none 0 0], [.int .u8 11, .string ⟨#[105]⟩, .string ⟨#[102]⟩, .string ⟨#[]⟩, .int .i64 0, .string ⟨#[]⟩, .slice (some ⟨z11, 0, none⟩) 1 1, .slice none 0 0], [.int .u8 11, .string ⟨#[]⟩, .string ⟨#[102]⟩, .string ⟨#[]⟩, .int .i64 0, .string ⟨#[]⟩, .slice (some ⟨z12, 0, none⟩) 2 2, .slice none 0 0], [.int .u8 12, .string ⟨#[]⟩, .string ⟨#[]⟩, .string ⟨#[]⟩, .int .i64 0, .string ⟨#[]⟩, .slice none 0 0, .slice (some ⟨z13, 0, none⟩) 2 2], [.int .u8 5, .string ⟨#[114, 101, 116]⟩, .string ⟨#[114, 101, 116]⟩, .string ⟨#[]⟩, .int .i64 0, .string ⟨#[]⟩, .slice none 0 0, .slice none 0 0], [.int .u8 3, .string ⟨#[103, 111, 116, 111]⟩, .string ⟨#[]⟩, .string ⟨#[]⟩, .int .i64 0, .string ⟨#[]⟩, .slice none 0 0, .slice none 0 0], [.int .u8 13, .string ⟨#[]⟩, .string ⟨#[]⟩, .string ⟨#[]⟩, .int .i64 0, .string ⟨#[]⟩, .slice none 0 0, .slice (some ⟨z16, 0, none⟩) 1 1], [.int .u8 14, .string ⟨#[]⟩, .string ⟨#[120]⟩, .string ⟨#[]⟩, .int .i64 0, .string ⟨#[]⟩, .slice none 0 0, .slice none 0 0], [.int .u8 14, .string ⟨#[]⟩, .string ⟨#[]⟩, .string ⟨#[]⟩, .int .i64 0, .string ⟨#[]⟩, .slice none 0 0, .slice none 0 0]] v0 rfl (.cons ⟨⟨_, _, rfl, (rds_block x5_1 rfl), (rds_block x5_2 rfl)⟩, rfl⟩ (.cons ⟨⟨_, _, rfl, (rds_nilK _), (rds_nilK _)⟩, rfl⟩ (.cons ⟨⟨_, _, rfl, (rds_nilK _), (rds_nilK _)⟩, rfl⟩ (.cons ⟨⟨_, _, rfl, (rds_nilK _), (rds_nilK _)⟩, rfl⟩ (.cons ⟨⟨_, _, rfl, (rds_block x9_0 rfl), (rds_nilK _)⟩, rfl⟩ (.cons ⟨⟨_, _, rfl, (rds_nilK _), (rds_nilK _)⟩, rfl⟩ (.cons ⟨⟨_, _, rfl, (rds_block x11_0 rfl), (rds_nilK _)⟩, rfl⟩ (.cons ⟨⟨_, _, rfl, (rds_block x12_0 rfl), (rds_nilK _)⟩, rfl⟩ (.cons ⟨⟨_, _, rfl, (rds_nilK _), (rds_block x13_0 rfl)⟩, rfl⟩ (.cons ⟨⟨_, _, rfl, (rds_nilK _), (rds_nilK _)⟩, rfl⟩ (.cons ⟨⟨_, _, rfl, (rds_nilK _), (rds_nilK _)⟩, rfl⟩ (.cons ⟨⟨_, _, rfl, (rds_nilK _), (rds_block x16_0 rfl)⟩, rfl⟩ (.cons ⟨⟨_, _, rfl, (rds_nilK _), (rds_nilK _)⟩, rfl⟩ (.cons ⟨⟨_, _, rfl, (rds_nilK _), (rds_nilK _)⟩, rfl⟩ (.nil)))))))))))))))
  have hBk : RdE 2 RdBlk W9 (.slice (some ⟨y19.heap.size + 1 + 1, 0, none⟩) 3 3) ([⟨⟨#[97]⟩, [⟨1, ⟨#[120]⟩, ⟨#[]⟩, ⟨#[]⟩, 2, ⟨#[]⟩, [], []⟩, ⟨2, ⟨#[121]⟩, ⟨#[]⟩, ⟨#[]⟩, 1, ⟨#[]⟩, [], []⟩, ⟨3, ⟨#[122]⟩, ⟨#[]⟩, ⟨#[]⟩, 0, ⟨#[]⟩, [], []⟩, ⟨4, ⟨#[102]⟩, ⟨#[]⟩, ⟨#[]⟩, 0, ⟨#[109, 97, 105, 110]⟩, [], []⟩, ⟨5, ⟨#[99]⟩, ⟨#[110, 117, 108, 108]⟩, ⟨#[]⟩, 0, ⟨#[]⟩, [], []⟩]⟩, ⟨⟨#[98]⟩, [⟨6, ⟨#[104]⟩, ⟨#[]⟩, ⟨#[]⟩, 0, ⟨#[]⟩, [⟨#[120]⟩, ⟨#[110, 117, 108, 108]⟩], [⟨#[97]⟩, ⟨#[98]⟩]⟩, ⟨7, ⟨#[100]⟩, ⟨#[120]⟩, ⟨#[]⟩, 1, ⟨#[]⟩, [], []⟩, ⟨8, ⟨#[108]⟩, ⟨#[100]⟩, ⟨#[]⟩, 0, ⟨#[]⟩, [], []⟩, ⟨9, ⟨#[]⟩, ⟨#[120]⟩, ⟨#[108]⟩, 0, ⟨#[]⟩, [], []⟩, ⟨10, ⟨#[114]⟩, ⟨#[]⟩, ⟨#[]⟩, 0, ⟨#[109, 97, 105, 110]⟩, [⟨#[112]⟩, ⟨#[120]⟩], []⟩, ⟨10, ⟨#[]⟩, ⟨#[]⟩, ⟨#[]⟩, 0, ⟨#[109, 97, 105, 110]⟩, [], []⟩, ⟨11, ⟨#[105]⟩, ⟨#[102]⟩, ⟨#[]⟩, 0, ⟨#[]⟩, [⟨#[110, 117, 108, 108]⟩], []⟩, ⟨11, ⟨#[]⟩, ⟨#[102]⟩, ⟨#[]⟩, 0, ⟨#[]⟩, [⟨#[97]⟩, ⟨#[98]⟩], []⟩, ⟨12, ⟨#[]⟩, ⟨#[]⟩, ⟨#[]⟩, 0, ⟨#[]⟩, [], [⟨#[97]⟩, ⟨#[98]⟩]⟩, ⟨5, ⟨#[114, 101, 116]⟩, ⟨#[114, 101, 116]⟩, ⟨#[]⟩, 0, ⟨#[]⟩, [], []⟩, ⟨3, ⟨#[103, 111, 116, 111]⟩, ⟨#[]⟩, ⟨#[]⟩, 0, ⟨#[]⟩, [], []⟩, ⟨13, ⟨#[]⟩, ⟨#[]⟩, ⟨#[]⟩, 0, ⟨#[]⟩, [], [⟨#[97]⟩]⟩, ⟨14, ⟨#[]⟩, ⟨#[120]⟩, ⟨#[]⟩, 0, ⟨#[]⟩, [], []⟩, ⟨14, ⟨#[]⟩, ⟨#[]⟩, ⟨#[]⟩, 0, ⟨#[]⟩, [], []⟩]⟩, ⟨⟨#[114, 101, 116]⟩, []⟩] : List Blk) := rde_block (L := ([⟨⟨#[97]⟩, [⟨1, ⟨#[120]⟩, ⟨#[]⟩, ⟨#[]⟩, 2, ⟨#[]⟩, [], []⟩, ⟨2, ⟨#[121]⟩, ⟨#[]⟩, ⟨#[]⟩, 1, ⟨#[]⟩, [], []⟩, ⟨3, ⟨#[122]⟩, ⟨#[]⟩, ⟨#[]⟩, 0, ⟨#[]⟩, [], []⟩, ⟨4, ⟨#[102]⟩, ⟨#[]⟩, ⟨#[]⟩, 0, ⟨#[109, 97, 105, 110]⟩, [], []⟩, ⟨5, ⟨#[99]⟩, ⟨#[110, 117, 108, 108]⟩, ⟨#[]⟩, 0, ⟨#[]⟩, [], []⟩]⟩, ⟨⟨#[98]⟩, [⟨6, ⟨#[104]⟩, ⟨#[]⟩, ⟨#[]⟩, 0, ⟨#[]⟩, [⟨#[120]⟩, ⟨#[110, 117, 108, 108]⟩], [⟨#[97]⟩, ⟨#[98]⟩]⟩, ⟨7, ⟨#[100]⟩, ⟨#[120]⟩, ⟨#[]⟩, 1, ⟨#[]⟩, [], []⟩, ⟨8, ⟨#[108]⟩, ⟨#[100]⟩, ⟨#[]⟩, 0, ⟨#[]⟩, [], []⟩, ⟨9, ⟨#[]⟩, ⟨#[120]⟩, ⟨#[108]⟩, 0, ⟨#[]⟩, [], []⟩, ⟨10, ⟨#[114]⟩, ⟨#[]⟩, ⟨#[]⟩, 0, ⟨#[109, 97, 105, 110]⟩, [⟨#[112]⟩, ⟨#[120]⟩], []⟩, ⟨10, ⟨#[]⟩, ⟨#[]⟩, ⟨#[]⟩, 0, ⟨#[109, 97, 105, 110]⟩, [], []⟩, ⟨11, ⟨#[105]⟩, ⟨#[102]⟩, ⟨#[]⟩, 0, ⟨#[]⟩, [⟨#[110, 117, 108, 108]⟩], []⟩, ⟨11, ⟨#[]⟩, ⟨#[102]⟩, ⟨#[]⟩, 0, ⟨#[]⟩, [⟨#[97]⟩, ⟨#[98]⟩], []⟩, ⟨12, ⟨#[]⟩, ⟨#[]⟩, ⟨#[]⟩, 0, ⟨#[]⟩, [], [⟨#[97]⟩, ⟨#[98]⟩]⟩, ⟨5, ⟨#[114, 101, 116]⟩, ⟨#[114, 101, 116]⟩, ⟨#[]⟩, 0, ⟨#[]⟩, [], []⟩, ⟨3, ⟨#[103, 111, 116, 111]⟩, ⟨#[]⟩, ⟨#[]⟩, 0, ⟨#[]⟩, [], []⟩, ⟨13, ⟨#[]⟩, ⟨#[]⟩, ⟨#[]⟩, 0, ⟨#[]⟩, [], [⟨#[97]⟩]⟩, ⟨14, ⟨#[]⟩, ⟨#[120]⟩, ⟨#[]⟩, 0, ⟨#[]⟩, [], []⟩, ⟨14, ⟨#[]⟩, ⟨#[]⟩, ⟨#[]⟩, 0, ⟨#[]⟩, [], []⟩]⟩, ⟨⟨#[114, 101, 116]⟩, []⟩] : List Blk)) [[.string ⟨#[97]⟩, .slice (some ⟨z5, 0, none⟩) 5 5], [.string ⟨#[98]⟩, .slice (some ⟨y19.heap.size, 0, none⟩) 14 14], [.string ⟨#[114, 101, 116]⟩, .slice none 0 0]] v2 rfl (.cons ⟨⟨_, rfl, hF⟩, rfl⟩ (.cons ⟨⟨_, rfl, hS⟩, rfl⟩ (.cons ⟨⟨_, rfl, RdE.nil _⟩, rfl⟩ (.nil))))
  have hw9 : RdE 3 RdFun W9 (.slice (some ⟨y19.heap.size + 1 + 1 + 1, 0, none⟩) 2 2) bigP := rde_block (L := bigP) [[.string ⟨#[109, 97, 105, 110]⟩, .slice (some ⟨y19.heap.size + 1, 0, none⟩) 2 2, .slice (some ⟨y19.heap.size + 1 + 1, 0, none⟩) 3 3], [.string ⟨#[110, 117, 108, 108]⟩, .slice none 0 0, .slice none 0 0]] v3 rfl (.cons ⟨⟨_, _, rfl, rds_block (ss := [⟨#[112]⟩, ⟨#[113]⟩]) v1 rfl, hBk⟩, rfl⟩ (.cons ⟨⟨_, _, rfl, rds_nilK _, RdE.nil _⟩, rfl⟩ (.nil)))
  have c9 : W9.cell? ⟨zp, 0, none⟩ = some (.slice va 2 vc) := by rw [blk_cell xp]; rfl
  have c10 : W9.cell? ⟨y19.heap.size + 1 + 1 + 1 + 1, 0, none⟩ = some (.slice (some ⟨y19.heap.size + 1 + 1 + 1, 0, none⟩) 2 2) := by rw [blk_cell v4]; rfl
  have l9 : zp < W9.heap.size := (Array.getElem?_eq_some_iff.1 xp).1
  have l10 : y19.heap.size + 1 + 1 + 1 + 1 < W9.heap.size := (Array.getElem?_eq_some_iff.1 v4).1
  replace hW9 := Lib.hid hW9
  replace hw9 := Lib.hid hw9
  clear hu hF hS hBk xp x5_0 x5_1 x5_2 x9_0 x11_0 x12_0 x13_0 x16_0 v0 v1 v2 v3 v4
  go_upto_region 19 with fail
  rw [← hW9.out]
  clear hW9
  go_wp2_with fail
  refine (k2.out _).mono ?_
  intro e wz hz
  obtain ⟨vb, n2, vd, rfl, hbz, hn2, -⟩ := post_all hz
  obtain rfl : n2 = 0 := hn2
  dsimp only [errR]
  rw [Int.natCast_zero]
  have uz : ∀ A C : Obj, Below wz.heap.size wz ((wz.alloc A).alloc C) := fun A C => ((Below.refl _ _).alloc (Nat.le_refl _) _).alloc (by simp) _
  have u9 : ∀ A C : Obj, Below W9.heap.size W9 ((wz.alloc A).alloc C) := fun A C => hbz.trans ((uz A C).mono hbz.size)
  have d9 : ∀ A C : Obj, ((wz.alloc A).alloc C).cell? ⟨zp, 0, none⟩ = some (.slice va 2 vc) := fun A C => ((u9 A C).cell (p := ⟨zp, 0, none⟩) l9).trans c9
  have d10 : ∀ A C : Obj, ((wz.alloc A).alloc C).cell? ⟨y19.heap.size + 1 + 1 + 1 + 1, 0, none⟩ = some (.slice (some ⟨y19.heap.size + 1 + 1 + 1, 0, none⟩) 2 2) := fun A C => ((u9 A C).cell (p := ⟨y19.heap.size + 1 + 1 + 1 + 1, 0, none⟩) l10).trans c10
  have m9 : zp < wz.heap.size := Nat.lt_of_lt_of_le l9 hbz.size
  have m10 : y19.heap.size + 1 + 1 + 1 + 1 < wz.heap.size := Nat.lt_of_lt_of_le l10 hbz.size
  have hsame : ∀ A C : Obj, Calls Tryd.prog 11 #[.agg #[.slice va 2 vc], .agg #[.slice (some ⟨y19.heap.size + 1 + 1 + 1, 0, none⟩) 2 2]] ((wz.alloc A).alloc C) fun e w' => e = .returned (.bool true) ∧ Below ((wz.alloc A).alloc C).heap.size ((wz.alloc A).alloc C) w' := fun A C => same_yes (RdE.below (fun _ _ h => h.below (u9 A C)) hrp.out (u9 A C)) (RdE.below (fun _ _ h => h.below (u9 A C)) hw9.out (u9 A C)) fit_big
  have hend : ∀ A C : Obj, Below w.heap.size w ((wz.alloc A).alloc C) := fun A C => hb.out.trans ((u9 A C).mono hb.out.size)
  have s0 : ∀ A : Obj, ((wz.alloc A).alloc (.cells #[.int .i64 0, .int .i64 0] 26)).heap[wz.heap.size + 1]? = some (.cells #[.int .i64 0, .int .i64 0] 26) := fun A => at_newP (by simp)
  have s1 : ∀ C : Obj, ((wz.alloc (.cells #[.slice vb 0 vd] 24)).alloc C).heap[wz.heap.size]? = some (.cells #[.slice vb 0 vd] 24) := fun C => at_oldP (at_newP rfl)
  have hq := fun w => eq_spotT w 0 0 0 0
  replace hsame := Lib.hid hsame
  replace hend := Lib.hid hend
  replace s0 := Lib.hid s0
  replace s1 := Lib.hid s1
  clear hz hbz uz u9 c9 c10 l9 l10 hrp hw9 hb k2
  go_wp2_with fail
  refine (hsame.out _ _).mono ?_
  rintro e wx ⟨rfl, hbx⟩
  obtain ⟨t0, t1⟩ := cells2P (keepB hbx (s0.out _))
  have t2 : wx.cell? ⟨wz.heap.size, 0, none⟩ = some (.slice vb 0 vd) := by rw [blk_cell (keepB hbx (s1.out _))]; rfl
  have hbx := Lib.hid ((hend.out _ _).trans (hbx.mono (hend.out _ _).size))
  clear d9 d10 s0 s1 hend
  go_wp2_with fail
  refine reads_any.mono ?_
  rintro e wl ⟨rfl, hbl⟩
  have hbl := Lib.hid (hbx.out.trans (hbl.mono hbx.out.size))
  go_wp2_with fail
  go_ret
  exact ⟨rfl, hbl.out⟩
end
end Go.Proofs.YtgcanabckogmmaaDoor
