/- A block of a function's body, by its number. -/
import Derived.Test.YtjblhiekccjdcaaRProg
namespace Go.Proofs.YtjblhiekccjdcaaR

def findB (n : Nat) : Code → Option Code
  | .seq a b => (findB n a).or (findB n b)
  | .cond _ a b => (findB n a).or (findB n b)
  | .loop a => findB n a
  | .block k a => if k = n then some (.block k a) else findB n a
  | _ => none
def Func.blockOf (f : Func) (n : Nat) : Option Code := f.body.bind (findB n)
end Go.Proofs.YtjblhiekccjdcaaR
