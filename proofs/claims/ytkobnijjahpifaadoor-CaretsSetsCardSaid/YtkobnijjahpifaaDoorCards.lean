/-
  DERIVED. GIVEN WITH THE SEED: THE CARDS: each row of YtkobnijjahpifaaDoorRows.lean that lists a variable, with what it lists TIED to the program's text (the seventh form; the later family's looks); each row that meets fmt, with fmt's text TOLD by the authors' own Lean function (tested against real Go, not proved from fmt's source: count such statements apart). THE CARD IS WHAT COUNTS. Prove the row's statement (the work); the ties are given (YtkobnijjahpifaaDoorTie.lean); close each card by the builder's one call (the guide's Derived/Test/ToyasCard.lean, 'card_holds'). Laid BY PROGRAM, IN A SANDBOX (cutbox-door.mjs). By AI agents, Wed Nov 11 2026. No macro, syntax, notation, axiom, sorry.
-/
import Derived.Test.YtkobnijjahpifaaDoorRows
import GoSem.ClaimSeven
namespace Go.Proofs.YtkobnijjahpifaaDoor
namespace Rows

/-- THE TIED CARD OF 'scrivenerlaw15.CaretsSets'. -/
def caretsSetsCard : Claim7 := { stood := { row := caretsSetsRow, standIns := [], harness := (true, "b4e3f504ec982e8c8f138cda1733ecffb8abebb2194fad470549c6bff6cde81c"), looks := false }, kinds := [], alts := [], laidByText := true, laidKinds := [.data], laidTests := true, laidLooks := .later }
def CaretsSetsCardSaid : Prop := Claim7.holds Tryd.pinned (.plain (OpenSpec.ofChange caretsSetsSpec)) caretsSetsCard

/-- THE SECOND FORM's CARD OF 'scrivenerlaw15.CaretsSets'. -/
def caretsSetsUptoCard : Claim7 := { stood := { row := caretsSetsUptoRow, standIns := [], harness := (true, "b4e3f504ec982e8c8f138cda1733ecffb8abebb2194fad470549c6bff6cde81c"), looks := false }, kinds := [], alts := [], laidByText := true, laidKinds := [.data], laidTests := true, laidLooks := .later }
def CaretsSetsUptoCardSaid : Prop := Claim7.holds Tryd.pinned (.plain (OpenSpec.upto caretsSetsSpec)) caretsSetsUptoCard
end Rows
end Go.Proofs.YtkobnijjahpifaaDoor
