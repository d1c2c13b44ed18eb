/-
  DERIVED. GIVEN WITH THE SEED: THE CARDS: each row of YtimplngemjdodaaDoorRows.lean that lists a variable, with what it lists TIED to the program's text (the seventh form; the later family's looks); each row that meets fmt, with fmt's text TOLD by the authors' own Lean function (tested against real Go, not proved from fmt's source: count such statements apart). THE CARD IS WHAT COUNTS. Prove the row's statement (the work); the ties are given (YtimplngemjdodaaDoorTie.lean); close each card by the builder's one call (the guide's Derived/Test/ToyasCard.lean, 'card_holds'). Laid BY PROGRAM, IN A SANDBOX (cutbox-door.mjs). By AI agents, Wed Nov 11 2026. No macro, syntax, notation, axiom, sorry.
-/
import Derived.Test.YtimplngemjdodaaDoorRows
import GoSem.ClaimSeven
namespace Go.Proofs.YtimplngemjdodaaDoor
namespace Rows

/-- THE TIED CARD OF 'scrivenerlaw17.CellsMake'. -/
def cellsMakeCard : Claim7 := { stood := { row := cellsMakeRow, standIns := [], harness := (true, "91757f59361726b4e94fc28257301f44f8271da35d0681eb9677eb135fd49af8"), looks := false }, kinds := [], alts := [], laidByText := true, laidKinds := [.data], laidTests := true, laidLooks := .later }
def CellsMakeCardSaid : Prop := Claim7.holds Tryd.pinned (.plain (OpenSpec.ofChange cellsMakeSpec)) cellsMakeCard

/-- THE TIED CARD OF 'scrivenerlaw17.CellsXs'. -/
def cellsXsCard : Claim7 := { stood := { row := cellsXsRow, standIns := [], harness := (true, "91757f59361726b4e94fc28257301f44f8271da35d0681eb9677eb135fd49af8"), looks := false }, kinds := [], alts := [], laidByText := true, laidKinds := [.data], laidTests := true, laidLooks := .later }
def CellsXsCardSaid : Prop := Claim7.holds Tryd.pinned (.plain (OpenSpec.ofChange cellsXsSpec)) cellsXsCard

/-- THE TIED CARD OF 'scrivenerlaw17.CellsWidth'. -/
def cellsWidthCard : Claim7 := { stood := { row := cellsWidthRow, standIns := [], harness := (true, "91757f59361726b4e94fc28257301f44f8271da35d0681eb9677eb135fd49af8"), looks := false }, kinds := [], alts := [], laidByText := true, laidKinds := [.data], laidTests := true, laidLooks := .later }
def CellsWidthCardSaid : Prop := Claim7.holds Tryd.pinned (.plain (OpenSpec.ofChange cellsWidthSpec)) cellsWidthCard

/-- THE SECOND FORM's CARD OF 'scrivenerlaw17.CellsMake'. -/
def cellsMakeUptoCard : Claim7 := { stood := { row := cellsMakeUptoRow, standIns := [], harness := (true, "91757f59361726b4e94fc28257301f44f8271da35d0681eb9677eb135fd49af8"), looks := false }, kinds := [], alts := [], laidByText := true, laidKinds := [.data], laidTests := true, laidLooks := .later }
def CellsMakeUptoCardSaid : Prop := Claim7.holds Tryd.pinned (.plain (OpenSpec.upto cellsMakeSpec)) cellsMakeUptoCard

/-- THE SECOND FORM's CARD OF 'scrivenerlaw17.CellsXs'. -/
def cellsXsUptoCard : Claim7 := { stood := { row := cellsXsUptoRow, standIns := [], harness := (true, "91757f59361726b4e94fc28257301f44f8271da35d0681eb9677eb135fd49af8"), looks := false }, kinds := [], alts := [], laidByText := true, laidKinds := [.data], laidTests := true, laidLooks := .later }
def CellsXsUptoCardSaid : Prop := Claim7.holds Tryd.pinned (.plain (OpenSpec.upto cellsXsSpec)) cellsXsUptoCard

/-- THE SECOND FORM's CARD OF 'scrivenerlaw17.CellsWidth'. -/
def cellsWidthUptoCard : Claim7 := { stood := { row := cellsWidthUptoRow, standIns := [], harness := (true, "91757f59361726b4e94fc28257301f44f8271da35d0681eb9677eb135fd49af8"), looks := false }, kinds := [], alts := [], laidByText := true, laidKinds := [.data], laidTests := true, laidLooks := .later }
def CellsWidthUptoCardSaid : Prop := Claim7.holds Tryd.pinned (.plain (OpenSpec.upto cellsWidthSpec)) cellsWidthUptoCard
end Rows
end Go.Proofs.YtimplngemjdodaaDoor
