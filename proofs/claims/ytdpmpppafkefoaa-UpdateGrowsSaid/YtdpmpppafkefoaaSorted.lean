/- slices.Sorted(maps.Keys(m)), by the shelf. -/
import Derived.Test.YtdpmpppafkefoaaLeast
import Derived.Shelf.SlIterI.Nil
import Derived.Shelf.SortM.Plain
import Derived.Shelf.SortM.SortNone
import Derived.Test.YtdpmpppafkefoaaShelf
namespace Go.Proofs.Ytdpmpppafkefoaa
open Go.RowKit Go.Maps Go.Sort Go.Shelf


end Go.Proofs.Ytdpmpppafkefoaa
