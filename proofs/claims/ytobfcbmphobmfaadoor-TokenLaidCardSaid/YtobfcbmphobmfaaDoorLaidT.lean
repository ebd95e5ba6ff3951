/- The settled world with the library's variables as the program's text lays them: one that fits. -/
import Derived.Test.YtobfcbmphobmfaaDoorRead
import Derived.Test.YtobfcbmphobmfaaDoorRows
import Derived.Lib.LaidTab
namespace Go.Proofs.YtobfcbmphobmfaaDoor

def lits64 : DataW Unit → List Value
  | .agg l => l.map fun | .lit (.int k n) => Value.int k n | _ => undef
  | _ => []
noncomputable def lowL : Nat := (World.holding Tryd.prog default ⟨#[], #[], []⟩).heap.size
/-- A variable that holds these cells. -/
noncomputable def putG (h : Array Obj) (g : Nat) (cs : Array Value) : Array Obj := h.modify g fun
  | .cells _ t frozen => .cells cs t frozen
  | o => o
noncomputable def laidWorld (os : Os) : World :=
  let w0 := World.holding Tryd.prog os ⟨#[.cells #[.string ⟨#[105, 110, 118, 97, 108, 105, 100, 32, 115, 121, 110, 116, 97, 120]⟩] 81, .cells #[.string ⟨#[118, 97, 108, 117, 101, 32, 111, 117, 116, 32, 111, 102, 32, 114, 97, 110, 103, 101]⟩] 81], #[], []⟩
  { w0 with heap := putG (putG (putG (putG (putG w0.heap 1 #[.iface 79 (.pointer (some ⟨lowL, 0, none⟩))]) 2 #[.iface 79 (.pointer (some ⟨lowL + 1, 0, none⟩))])
      3 (lits64 Rows.laid_internal_strconv_uint64pow10).toArray) 4 (lits64 Rows.laid_math_bits_deBruijn32tab).toArray) 5 (lits64 Rows.laid_math_bits_deBruijn64tab).toArray }
end Go.Proofs.YtobfcbmphobmfaaDoor
