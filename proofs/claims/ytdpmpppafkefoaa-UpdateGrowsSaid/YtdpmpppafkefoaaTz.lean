/- math/bits.TrailingZeros64, by the shelf. -/
import Derived.Test.YtdpmpppafkefoaaMinus
import Derived.Shelf.Spec.TrailingZeros
import Derived.Test.YtdpmpppafkefoaaShelf
namespace Go.Proofs.Ytdpmpppafkefoaa
open Go.RowKit Go.Maps Go.Shelf

end Go.Proofs.Ytdpmpppafkefoaa
