/-
  DERIVED. GIVEN WITH THE SEED: THE CARDS: each row of YtcimhljnboeobaaDoorRows.lean that lists a variable, with what it lists TIED to the program's text (the seventh form; the later family's looks); each row that meets fmt, with fmt's text TOLD by the authors' own Lean function (tested against real Go, not proved from fmt's source: count such statements apart). THE CARD IS WHAT COUNTS. Prove the row's statement (the work); the ties are given (YtcimhljnboeobaaDoorTie.lean); close each card by the builder's one call (the guide's Derived/Test/ToyasCard.lean, 'card_holds'). Laid BY PROGRAM, IN A SANDBOX (cutbox-door.mjs). By AI agents, Wed Nov 11 2026. No macro, syntax, notation, axiom, sorry.
-/
import Derived.Test.YtcimhljnboeobaaDoorRows
import GoSem.ClaimSeven
namespace Go.Proofs.YtcimhljnboeobaaDoor
namespace Rows

/-- THE TIED CARD OF 'gnomonlaw24.QueueNil'. -/
def queueNilCard : Claim7 := { stood := { row := queueNilRow, standIns := [], harness := (true, "c4f18050e9f8ed6ece295b925e15785f27d0a30f035d1532c276b422091a5845"), looks := false }, kinds := [], alts := [], laidByText := true, laidKinds := [.data], laidTests := true, laidLooks := .later }
def QueueNilCardSaid : Prop := Claim7.holds Tryd.pinned (.plain (OpenSpec.ofChange queueNilSpec)) queueNilCard

/-- THE TIED CARD OF 'gnomonlaw24.QueuePicks'. -/
def queuePicksCard : Claim7 := { stood := { row := queuePicksRow, standIns := [], harness := (true, "c4f18050e9f8ed6ece295b925e15785f27d0a30f035d1532c276b422091a5845"), looks := false }, kinds := [], alts := [], laidByText := true, laidKinds := [.data], laidTests := true, laidLooks := .later }
def QueuePicksCardSaid : Prop := Claim7.holds Tryd.pinned (.plain (OpenSpec.ofChange queuePicksSpec)) queuePicksCard

/-- THE TIED CARD OF 'gnomonlaw24.QueueAgain'. -/
def queueAgainCard : Claim7 := { stood := { row := queueAgainRow, standIns := [], harness := (true, "c4f18050e9f8ed6ece295b925e15785f27d0a30f035d1532c276b422091a5845"), looks := false }, kinds := [], alts := [], laidByText := true, laidKinds := [.data], laidTests := true, laidLooks := .later }
def QueueAgainCardSaid : Prop := Claim7.holds Tryd.pinned (.plain (OpenSpec.ofChange queueAgainSpec)) queueAgainCard

/-- THE SECOND FORM's CARD OF 'gnomonlaw24.QueueNil'. -/
def queueNilUptoCard : Claim7 := { stood := { row := queueNilUptoRow, standIns := [], harness := (true, "c4f18050e9f8ed6ece295b925e15785f27d0a30f035d1532c276b422091a5845"), looks := false }, kinds := [], alts := [], laidByText := true, laidKinds := [.data], laidTests := true, laidLooks := .later }
def QueueNilUptoCardSaid : Prop := Claim7.holds Tryd.pinned (.plain (OpenSpec.upto queueNilSpec)) queueNilUptoCard

/-- THE SECOND FORM's CARD OF 'gnomonlaw24.QueuePicks'. -/
def queuePicksUptoCard : Claim7 := { stood := { row := queuePicksUptoRow, standIns := [], harness := (true, "c4f18050e9f8ed6ece295b925e15785f27d0a30f035d1532c276b422091a5845"), looks := false }, kinds := [], alts := [], laidByText := true, laidKinds := [.data], laidTests := true, laidLooks := .later }
def QueuePicksUptoCardSaid : Prop := Claim7.holds Tryd.pinned (.plain (OpenSpec.upto queuePicksSpec)) queuePicksUptoCard

/-- THE SECOND FORM's CARD OF 'gnomonlaw24.QueueAgain'. -/
def queueAgainUptoCard : Claim7 := { stood := { row := queueAgainUptoRow, standIns := [], harness := (true, "c4f18050e9f8ed6ece295b925e15785f27d0a30f035d1532c276b422091a5845"), looks := false }, kinds := [], alts := [], laidByText := true, laidKinds := [.data], laidTests := true, laidLooks := .later }
def QueueAgainUptoCardSaid : Prop := Claim7.holds Tryd.pinned (.plain (OpenSpec.upto queueAgainSpec)) queueAgainUptoCard
end Rows
end Go.Proofs.YtcimhljnboeobaaDoor
