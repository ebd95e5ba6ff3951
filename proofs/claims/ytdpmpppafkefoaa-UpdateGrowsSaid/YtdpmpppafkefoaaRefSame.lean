/- Two slices of numbers held against each other. -/
import Derived.Test.YtdpmpppafkefoaaList
namespace Go.Proofs.Ytdpmpppafkefoaa
open Go.RowKit Go.Maps

/-- A slice that reads as these numbers. -/
abbrev RdI (w : World) (s : Value) (xs : List Int) : Prop := Rd w s (xs.map encI)

end Go.Proofs.Ytdpmpppafkefoaa
