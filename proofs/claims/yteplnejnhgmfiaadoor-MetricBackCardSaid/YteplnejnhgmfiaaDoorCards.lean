/-
  DERIVED. GIVEN WITH THE SEED: THE CARDS: each row of YteplnejnhgmfiaaDoorRows.lean that lists a variable, with what it lists TIED to the program's text (the seventh form; the later family's looks); each row that meets fmt, with fmt's text TOLD by the authors' own Lean function (tested against real Go, not proved from fmt's source: count such statements apart). THE CARD IS WHAT COUNTS. Prove the row's statement (the work); the ties are given (YteplnejnhgmfiaaDoorTie.lean); close each card by the builder's one call (the guide's Derived/Test/ToyasCard.lean, 'card_holds'). Laid BY PROGRAM, IN A SANDBOX (cutbox-door.mjs). By AI agents, Wed Nov 11 2026. No macro, syntax, notation, axiom, sorry.
-/
import Derived.Test.YteplnejnhgmfiaaDoorRows
import GoSem.ClaimSeven
namespace Go.Proofs.YteplnejnhgmfiaaDoor
namespace Rows

/-- THE TIED CARD OF 'scrivenerlaw19.MetricLines'. -/
def metricLinesCard : Claim7 := { stood := { row := metricLinesRow, standIns := [], harness := (true, "140e353508b73f0f6983d7e0de4b5475bfcd5ca2d8e686f3ffc644052408df60"), looks := false }, kinds := [], alts := [], laidByText := true, laidKinds := [.data], laidTests := true, laidLooks := .later }
def MetricLinesCardSaid : Prop := Claim7.holds Tryd.pinned (.plain (OpenSpec.ofChange metricLinesSpec)) metricLinesCard

/-- THE TIED CARD OF 'scrivenerlaw19.MetricHeights'. -/
def metricHeightsCard : Claim7 := { stood := { row := metricHeightsRow, standIns := [], harness := (true, "140e353508b73f0f6983d7e0de4b5475bfcd5ca2d8e686f3ffc644052408df60"), looks := false }, kinds := [], alts := [], laidByText := true, laidKinds := [.data], laidTests := true, laidLooks := .later }
def MetricHeightsCardSaid : Prop := Claim7.holds Tryd.pinned (.plain (OpenSpec.ofChange metricHeightsSpec)) metricHeightsCard

/-- THE TIED CARD OF 'scrivenerlaw19.MetricNear'. -/
def metricNearCard : Claim7 := { stood := { row := metricNearRow, standIns := [], harness := (true, "140e353508b73f0f6983d7e0de4b5475bfcd5ca2d8e686f3ffc644052408df60"), looks := false }, kinds := [], alts := [], laidByText := true, laidKinds := [.data], laidTests := true, laidLooks := .later }
def MetricNearCardSaid : Prop := Claim7.holds Tryd.pinned (.plain (OpenSpec.ofChange metricNearSpec)) metricNearCard

/-- THE TIED CARD OF 'scrivenerlaw19.MetricBack'. -/
def metricBackCard : Claim7 := { stood := { row := metricBackRow, standIns := [], harness := (true, "140e353508b73f0f6983d7e0de4b5475bfcd5ca2d8e686f3ffc644052408df60"), looks := false }, kinds := [], alts := [], laidByText := true, laidKinds := [.data], laidTests := true, laidLooks := .later }
def MetricBackCardSaid : Prop := Claim7.holds Tryd.pinned (.plain (OpenSpec.ofChange metricBackSpec)) metricBackCard

/-- THE SECOND FORM's CARD OF 'scrivenerlaw19.MetricLines'. -/
def metricLinesUptoCard : Claim7 := { stood := { row := metricLinesUptoRow, standIns := [], harness := (true, "140e353508b73f0f6983d7e0de4b5475bfcd5ca2d8e686f3ffc644052408df60"), looks := false }, kinds := [], alts := [], laidByText := true, laidKinds := [.data], laidTests := true, laidLooks := .later }
def MetricLinesUptoCardSaid : Prop := Claim7.holds Tryd.pinned (.plain (OpenSpec.upto metricLinesSpec)) metricLinesUptoCard

/-- THE SECOND FORM's CARD OF 'scrivenerlaw19.MetricHeights'. -/
def metricHeightsUptoCard : Claim7 := { stood := { row := metricHeightsUptoRow, standIns := [], harness := (true, "140e353508b73f0f6983d7e0de4b5475bfcd5ca2d8e686f3ffc644052408df60"), looks := false }, kinds := [], alts := [], laidByText := true, laidKinds := [.data], laidTests := true, laidLooks := .later }
def MetricHeightsUptoCardSaid : Prop := Claim7.holds Tryd.pinned (.plain (OpenSpec.upto metricHeightsSpec)) metricHeightsUptoCard

/-- THE SECOND FORM's CARD OF 'scrivenerlaw19.MetricNear'. -/
def metricNearUptoCard : Claim7 := { stood := { row := metricNearUptoRow, standIns := [], harness := (true, "140e353508b73f0f6983d7e0de4b5475bfcd5ca2d8e686f3ffc644052408df60"), looks := false }, kinds := [], alts := [], laidByText := true, laidKinds := [.data], laidTests := true, laidLooks := .later }
def MetricNearUptoCardSaid : Prop := Claim7.holds Tryd.pinned (.plain (OpenSpec.upto metricNearSpec)) metricNearUptoCard

/-- THE SECOND FORM's CARD OF 'scrivenerlaw19.MetricBack'. -/
def metricBackUptoCard : Claim7 := { stood := { row := metricBackUptoRow, standIns := [], harness := (true, "140e353508b73f0f6983d7e0de4b5475bfcd5ca2d8e686f3ffc644052408df60"), looks := false }, kinds := [], alts := [], laidByText := true, laidKinds := [.data], laidTests := true, laidLooks := .later }
def MetricBackUptoCardSaid : Prop := Claim7.holds Tryd.pinned (.plain (OpenSpec.upto metricBackSpec)) metricBackUptoCard
end Rows
end Go.Proofs.YteplnejnhgmfiaaDoor
