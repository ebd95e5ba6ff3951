/- The document's own graph that is turned round. -/
import Derived.Test.YteipncggndefmaaGRWalk
namespace Go.Proofs.Yteipncggndefmaa
open Go.RowKit Go.Maps Go.Shelf

end Go.Proofs.Yteipncggndefmaa
