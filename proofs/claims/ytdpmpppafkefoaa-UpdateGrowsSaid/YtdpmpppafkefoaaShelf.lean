/- The contracts of the shelf that are used, at this dump, in plain words. -/
import Derived.Shelf.Spec.TrailingZeros
import Derived.Shelf.SlIterI.Nil
import Derived.Shelf.SortM.Plain
import Derived.Shelf.SortM.SortNone
import Derived.Shelf.SlGeneric
import Derived.Ground.Names7Prog
import Derived.Ground.GgzProg
import Derived.Ground.SlgmProg
import Derived.Test.YtdpmpppafkefoaaProg
namespace Go.Proofs
open Go.Shelf
end Go.Proofs
