/-
  NARROWER THAN 'FOR EVERY INPUT', by the rows' own cells (each row's printed sentence says how): MetricLines: laid · MetricHeights: laid · MetricNear: laid · MetricBack: laid.
  DERIVED. THE GIVEN ROWS OF THIS SEAT. 4 by the template 'for every input the law returns true; each argument reads behind the call as it read before'; 0 by the template 'total and deterministic' (their statements: YteplnejnhgmfiaaDoorTotals.lean).
  GIVEN WITH THE SEED: the statements are not yours to turn. If you find one false, say at which input.
  Laid BY PROGRAM, IN A SANDBOX (cutbox-rows.mjs): the forced cells as the released guide's own fill.sh prints them over the translation 38f279e52b638980… (all of the seat's roots in one cut). By AI agents, Wed Nov 11 2026. No macro, syntax, notation, axiom, sorry.
-/
import Derived.Test.YteplnejnhgmfiaaDoorChecked
import GoSem.Claim
import GoSem.ClaimJoined
import GoSem.ClaimMapViews
import Derived.JoinedTies
import Derived.KernelRfl
namespace Go.Proofs.YteplnejnhgmfiaaDoor
/- THE CELL 'sum', in the pinned program and in every row, IS THE sha256 OF THE DUMP (.gsa) THAT YteplnejnhgmfiaaDoorProg.lean LOADS. Nothing in Lean hashes anything: it is a label: what it is worth is what the hold of that sum in a sandbox is worth. -/
noncomputable def Tryd.pinned : Pinned := { name := "yteplnejnhgmfiaadoor", sum := "38f279e52b638980f1b68bc7e12d64ef00ddc9256450d09aed52960915432bd2", checked := Tryd.checked }
namespace Rows
def none {H : Type} : Left H := { results := [], args := [] }

/- WHAT THE LISTED PACKAGE-LEVEL VARIABLES READ AS WHEN THE CALL BEGINS. Each datum BY PROGRAM (the guide's laid-datum.mjs) off the statement by which the dump's own 'gosem.cut.vars' lays the variable. In a bare row this is a premise. The card (YteplnejnhgmfiaaDoorCards.lean) ties it to the program's text. -/
def laid_scrivener_utf_heads {H : Type} : DataW H := .agg [.lit (.int .u8 0), .lit (.int .u8 0), .lit (.int .u8 192), .lit (.int .u8 224), .lit (.int .u8 240)]

/-- 'scrivenerlaw19.MetricLines': WHATEVER THE INPUT: true; the input reads as it did. -/
def metricLinesSpec : ChangeSpec := { name := "metricLines", fn := fun _ => fun
  | [d1, d2, d3] => { results := [.lit (.bool true)], args := [d1, d2, d3] }
  | _ => none }
def metricLinesRow : OpenClaim := { program := "yteplnejnhgmfiaadoor", sum := "38f279e52b638980f1b68bc7e12d64ef00ddc9256450d09aed52960915432bd2", func := "scrivener/scrivenerlaw19.MetricLines", spec := "metricLines", unfollowed := true, recurses := true, named := ["scrivener/utf.heads"], apart := false, laid := [("scrivener/utf.heads", laid_scrivener_utf_heads)] }
def MetricLinesSaid : Prop := metricLinesRow.holds Tryd.pinned (OpenSpec.ofChange metricLinesSpec)

/-- ITS FALSE NEIGHBOUR: 'it returns false'. Refute it at one input. -/
def metricLinesWrong : ChangeSpec := { name := "metricLines", fn := fun _ => fun
  | [d1, d2, d3] => { results := [.lit (.bool false)], args := [d1, d2, d3] }
  | _ => none }
def MetricLinesWrongFalsely : Prop := metricLinesRow.holds Tryd.pinned (OpenSpec.ofChange metricLinesWrong)

/-- 'scrivenerlaw19.MetricHeights': WHATEVER THE INPUT: true; the input reads as it did. -/
def metricHeightsSpec : ChangeSpec := { name := "metricHeights", fn := fun _ => fun
  | [d1, d2] => { results := [.lit (.bool true)], args := [d1, d2] }
  | _ => none }
def metricHeightsRow : OpenClaim := { program := "yteplnejnhgmfiaadoor", sum := "38f279e52b638980f1b68bc7e12d64ef00ddc9256450d09aed52960915432bd2", func := "scrivener/scrivenerlaw19.MetricHeights", spec := "metricHeights", unfollowed := true, recurses := true, named := ["scrivener/utf.heads"], apart := false, laid := [("scrivener/utf.heads", laid_scrivener_utf_heads)] }
def MetricHeightsSaid : Prop := metricHeightsRow.holds Tryd.pinned (OpenSpec.ofChange metricHeightsSpec)

/-- ITS FALSE NEIGHBOUR: 'it returns false'. Refute it at one input. -/
def metricHeightsWrong : ChangeSpec := { name := "metricHeights", fn := fun _ => fun
  | [d1, d2] => { results := [.lit (.bool false)], args := [d1, d2] }
  | _ => none }
def MetricHeightsWrongFalsely : Prop := metricHeightsRow.holds Tryd.pinned (OpenSpec.ofChange metricHeightsWrong)

/-- 'scrivenerlaw19.MetricNear': WHATEVER THE INPUT: true; the input reads as it did. -/
def metricNearSpec : ChangeSpec := { name := "metricNear", fn := fun _ => fun
  | [d1, d2] => { results := [.lit (.bool true)], args := [d1, d2] }
  | _ => none }
def metricNearRow : OpenClaim := { program := "yteplnejnhgmfiaadoor", sum := "38f279e52b638980f1b68bc7e12d64ef00ddc9256450d09aed52960915432bd2", func := "scrivener/scrivenerlaw19.MetricNear", spec := "metricNear", unfollowed := true, recurses := true, named := ["scrivener/utf.heads"], apart := false, laid := [("scrivener/utf.heads", laid_scrivener_utf_heads)] }
def MetricNearSaid : Prop := metricNearRow.holds Tryd.pinned (OpenSpec.ofChange metricNearSpec)

/-- ITS FALSE NEIGHBOUR: 'it returns false'. Refute it at one input. -/
def metricNearWrong : ChangeSpec := { name := "metricNear", fn := fun _ => fun
  | [d1, d2] => { results := [.lit (.bool false)], args := [d1, d2] }
  | _ => none }
def MetricNearWrongFalsely : Prop := metricNearRow.holds Tryd.pinned (OpenSpec.ofChange metricNearWrong)

/-- 'scrivenerlaw19.MetricBack': WHATEVER THE INPUT: true; the input reads as it did. -/
def metricBackSpec : ChangeSpec := { name := "metricBack", fn := fun _ => fun
  | [d1, d2, d3] => { results := [.lit (.bool true)], args := [d1, d2, d3] }
  | _ => none }
def metricBackRow : OpenClaim := { program := "yteplnejnhgmfiaadoor", sum := "38f279e52b638980f1b68bc7e12d64ef00ddc9256450d09aed52960915432bd2", func := "scrivener/scrivenerlaw19.MetricBack", spec := "metricBack", unfollowed := true, recurses := true, named := ["scrivener/utf.heads"], apart := false, laid := [("scrivener/utf.heads", laid_scrivener_utf_heads)] }
def MetricBackSaid : Prop := metricBackRow.holds Tryd.pinned (OpenSpec.ofChange metricBackSpec)

/-- ITS FALSE NEIGHBOUR: 'it returns false'. Refute it at one input. -/
def metricBackWrong : ChangeSpec := { name := "metricBack", fn := fun _ => fun
  | [d1, d2, d3] => { results := [.lit (.bool false)], args := [d1, d2, d3] }
  | _ => none }
def MetricBackWrongFalsely : Prop := metricBackRow.holds Tryd.pinned (OpenSpec.ofChange metricBackWrong)

/- THE SECOND FORM. 'bulk': how many values and letters a reading holds, each counted each time it is reached (what is shared counts as often as it is met; a slice's spare places count too). A statement '..UptoSaid' is the law's where the arguments, and the package variables that the reading takes, are together of bulk at most 1048576: NARROWER than '..Said'. Prove '..Said' where nothing that the law and all that it calls make is longer than what came in: it says more and counts as full. Else prove '..UptoSaid'. A law counts once. -/
mutual
def uptoBulk {H : Type} : DataW H → Nat
  | .lit (.string bytes) => bytes.length + 1
  | .lit _ => 1
  | .nil => 1
  | .ptr d => uptoBulk d + 1
  | .slice elems spare => uptoBulkAll elems + uptoBulkAll spare + 1
  | .agg parts => uptoBulkAll parts + 1
  | .iface _ d => uptoBulk d + 1
  | .map entries => uptoBulkEntries entries + 1
  | .held _ => 1
def uptoBulkAll {H : Type} : List (DataW H) → Nat
  | [] => 0
  | d :: r => uptoBulk d + uptoBulkAll r
def uptoBulkEntries {H : Type} : List (Lit × DataW H) → Nat
  | [] => 0
  | x :: r => uptoBulkEntry x + uptoBulkEntries r
def uptoBulkEntry {H : Type} : Lit × DataW H → Nat
  | (.string bytes, d) => bytes.length + uptoBulk d + 1
  | (_, d) => uptoBulk d + 1
 end
def uptoSmall : (H : Type) → List (DataW H) → Bool := fun _ ds => decide (uptoBulkAll ds ≤ 1048576)
def OpenSpec.upto (s : _root_.Go.ChangeSpec) : _root_.Go.OpenSpec := { _root_.Go.OpenSpec.ofChange s with cond := some uptoSmall }

/-- 'scrivenerlaw19.MetricLines', WHERE WHAT IT READS IS OF BULK AT MOST 1048576: true; the input reads as it did. -/
def metricLinesUptoRow : OpenClaim := { program := "yteplnejnhgmfiaadoor", sum := "38f279e52b638980f1b68bc7e12d64ef00ddc9256450d09aed52960915432bd2", func := "scrivener/scrivenerlaw19.MetricLines", spec := "metricLines", unfollowed := true, recurses := true, named := ["scrivener/utf.heads"], apart := false, laid := [("scrivener/utf.heads", laid_scrivener_utf_heads)], narrowed := true }
def MetricLinesUptoSaid : Prop := metricLinesUptoRow.holds Tryd.pinned (OpenSpec.upto metricLinesSpec)

/-- 'scrivenerlaw19.MetricHeights', WHERE WHAT IT READS IS OF BULK AT MOST 1048576: true; the input reads as it did. -/
def metricHeightsUptoRow : OpenClaim := { program := "yteplnejnhgmfiaadoor", sum := "38f279e52b638980f1b68bc7e12d64ef00ddc9256450d09aed52960915432bd2", func := "scrivener/scrivenerlaw19.MetricHeights", spec := "metricHeights", unfollowed := true, recurses := true, named := ["scrivener/utf.heads"], apart := false, laid := [("scrivener/utf.heads", laid_scrivener_utf_heads)], narrowed := true }
def MetricHeightsUptoSaid : Prop := metricHeightsUptoRow.holds Tryd.pinned (OpenSpec.upto metricHeightsSpec)

/-- 'scrivenerlaw19.MetricNear', WHERE WHAT IT READS IS OF BULK AT MOST 1048576: true; the input reads as it did. -/
def metricNearUptoRow : OpenClaim := { program := "yteplnejnhgmfiaadoor", sum := "38f279e52b638980f1b68bc7e12d64ef00ddc9256450d09aed52960915432bd2", func := "scrivener/scrivenerlaw19.MetricNear", spec := "metricNear", unfollowed := true, recurses := true, named := ["scrivener/utf.heads"], apart := false, laid := [("scrivener/utf.heads", laid_scrivener_utf_heads)], narrowed := true }
def MetricNearUptoSaid : Prop := metricNearUptoRow.holds Tryd.pinned (OpenSpec.upto metricNearSpec)

/-- 'scrivenerlaw19.MetricBack', WHERE WHAT IT READS IS OF BULK AT MOST 1048576: true; the input reads as it did. -/
def metricBackUptoRow : OpenClaim := { program := "yteplnejnhgmfiaadoor", sum := "38f279e52b638980f1b68bc7e12d64ef00ddc9256450d09aed52960915432bd2", func := "scrivener/scrivenerlaw19.MetricBack", spec := "metricBack", unfollowed := true, recurses := true, named := ["scrivener/utf.heads"], apart := false, laid := [("scrivener/utf.heads", laid_scrivener_utf_heads)], narrowed := true }
def MetricBackUptoSaid : Prop := metricBackUptoRow.holds Tryd.pinned (OpenSpec.upto metricBackSpec)

end Rows
end Go.Proofs.YteplnejnhgmfiaaDoor
