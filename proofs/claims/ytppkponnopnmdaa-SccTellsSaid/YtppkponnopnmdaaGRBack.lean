/- The document's own graph that is turned round. -/
import Derived.Test.YtppkponnopnmdaaGRWalk
namespace Go.Proofs.Ytppkponnopnmdaa
open Go.RowKit Go.Maps Go.Shelf

end Go.Proofs.Ytppkponnopnmdaa
