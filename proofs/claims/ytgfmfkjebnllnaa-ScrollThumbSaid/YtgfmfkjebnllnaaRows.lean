/-
  No cell of these rows narrows 'for every input' (looked for: loops, veiled, ifaces, maps, wideKeys, modest, calm, conditions, laid).
  DERIVED. THE GIVEN ROWS OF THIS SEAT. 4 by the template 'for every input the law returns true; each argument reads behind the call as it read before'; 0 by the template 'total and deterministic' (their statements: YtgfmfkjebnllnaaTotals.lean).
  GIVEN WITH THE SEED: the statements are not yours to turn. If you find one false, say at which input.
  Laid BY PROGRAM, IN A SANDBOX (cutbox-rows.mjs): the forced cells as the released guide's own fill.sh prints them over the translation 12d9c14c8c01f2ef… (all of the seat's roots in one cut). By AI agents, Wed Nov 11 2026. No macro, syntax, notation, axiom, sorry.
-/
import Derived.Test.YtgfmfkjebnllnaaChecked
import GoSem.Claim
import GoSem.ClaimJoined
import GoSem.ClaimMapViews
import Derived.JoinedTies
import Derived.KernelRfl
namespace Go.Proofs.Ytgfmfkjebnllnaa
/- THE CELL 'sum', in the pinned program and in every row, IS THE sha256 OF THE DUMP (.gsa) THAT YtgfmfkjebnllnaaProg.lean LOADS. Nothing in Lean hashes anything: it is a label: what it is worth is what the hold of that sum in a sandbox is worth. -/
noncomputable def Try.pinned : Pinned := { name := "ytgfmfkjebnllnaa", sum := "12d9c14c8c01f2efe918a5452fcd138ee0090320a4ab5f64a3a788952a236e58", checked := Try.checked }
namespace Rows
def none {H : Type} : Left H := { results := [], args := [] }

/-- 'scrivenerlaw22.ScrollClamps': WHATEVER THE INPUT: true; the input reads as it did. -/
def scrollClampsSpec : ChangeSpec := { name := "scrollClamps", fn := fun _ => fun
  | [d1, d2] => { results := [.lit (.bool true)], args := [d1, d2] }
  | _ => none }
def scrollClampsRow : OpenClaim := { program := "ytgfmfkjebnllnaa", sum := "12d9c14c8c01f2efe918a5452fcd138ee0090320a4ab5f64a3a788952a236e58", func := "scrivener/scrivenerlaw22.ScrollClamps", spec := "scrollClamps", unfollowed := true, recurses := true, apart := false }
def ScrollClampsSaid : Prop := scrollClampsRow.holds Try.pinned (OpenSpec.ofChange scrollClampsSpec)

/-- ITS FALSE NEIGHBOUR: 'it returns false'. Refute it at one input. -/
def scrollClampsWrong : ChangeSpec := { name := "scrollClamps", fn := fun _ => fun
  | [d1, d2] => { results := [.lit (.bool false)], args := [d1, d2] }
  | _ => none }
def ScrollClampsWrongFalsely : Prop := scrollClampsRow.holds Try.pinned (OpenSpec.ofChange scrollClampsWrong)

/-- 'scrivenerlaw22.ScrollShifts': WHATEVER THE INPUT: true; the input reads as it did. -/
def scrollShiftsSpec : ChangeSpec := { name := "scrollShifts", fn := fun _ => fun
  | [d1, d2, d3] => { results := [.lit (.bool true)], args := [d1, d2, d3] }
  | _ => none }
def scrollShiftsRow : OpenClaim := { program := "ytgfmfkjebnllnaa", sum := "12d9c14c8c01f2efe918a5452fcd138ee0090320a4ab5f64a3a788952a236e58", func := "scrivener/scrivenerlaw22.ScrollShifts", spec := "scrollShifts", unfollowed := true, recurses := true, apart := false }
def ScrollShiftsSaid : Prop := scrollShiftsRow.holds Try.pinned (OpenSpec.ofChange scrollShiftsSpec)

/-- ITS FALSE NEIGHBOUR: 'it returns false'. Refute it at one input. -/
def scrollShiftsWrong : ChangeSpec := { name := "scrollShifts", fn := fun _ => fun
  | [d1, d2, d3] => { results := [.lit (.bool false)], args := [d1, d2, d3] }
  | _ => none }
def ScrollShiftsWrongFalsely : Prop := scrollShiftsRow.holds Try.pinned (OpenSpec.ofChange scrollShiftsWrong)

/-- 'scrivenerlaw22.ScrollReveals': WHATEVER THE INPUT: true; the input reads as it did. -/
def scrollRevealsSpec : ChangeSpec := { name := "scrollReveals", fn := fun _ => fun
  | [d1, d2, d3] => { results := [.lit (.bool true)], args := [d1, d2, d3] }
  | _ => none }
def scrollRevealsRow : OpenClaim := { program := "ytgfmfkjebnllnaa", sum := "12d9c14c8c01f2efe918a5452fcd138ee0090320a4ab5f64a3a788952a236e58", func := "scrivener/scrivenerlaw22.ScrollReveals", spec := "scrollReveals", unfollowed := true, recurses := true, apart := false }
def ScrollRevealsSaid : Prop := scrollRevealsRow.holds Try.pinned (OpenSpec.ofChange scrollRevealsSpec)

/-- ITS FALSE NEIGHBOUR: 'it returns false'. Refute it at one input. -/
def scrollRevealsWrong : ChangeSpec := { name := "scrollReveals", fn := fun _ => fun
  | [d1, d2, d3] => { results := [.lit (.bool false)], args := [d1, d2, d3] }
  | _ => none }
def ScrollRevealsWrongFalsely : Prop := scrollRevealsRow.holds Try.pinned (OpenSpec.ofChange scrollRevealsWrong)

/-- 'scrivenerlaw22.ScrollThumb': WHATEVER THE INPUT: true; the input reads as it did. -/
def scrollThumbSpec : ChangeSpec := { name := "scrollThumb", fn := fun _ => fun
  | [d] => { results := [.lit (.bool true)], args := [d] }
  | _ => none }
def scrollThumbRow : OpenClaim := { program := "ytgfmfkjebnllnaa", sum := "12d9c14c8c01f2efe918a5452fcd138ee0090320a4ab5f64a3a788952a236e58", func := "scrivener/scrivenerlaw22.ScrollThumb", spec := "scrollThumb", unfollowed := true, recurses := true, apart := false }
def ScrollThumbSaid : Prop := scrollThumbRow.holds Try.pinned (OpenSpec.ofChange scrollThumbSpec)

/-- ITS FALSE NEIGHBOUR: 'it returns false'. Refute it at one input. -/
def scrollThumbWrong : ChangeSpec := { name := "scrollThumb", fn := fun _ => fun
  | [d] => { results := [.lit (.bool false)], args := [d] }
  | _ => none }
def ScrollThumbWrongFalsely : Prop := scrollThumbRow.holds Try.pinned (OpenSpec.ofChange scrollThumbWrong)

/- THE SECOND FORM. 'bulk': how many values and letters a reading holds, each counted each time it is reached (what is shared counts as often as it is met; a slice's spare places count too). A statement '..UptoSaid' is the law's where the arguments, and the package variables that the reading takes, are together of bulk at most 1048576: NARROWER than '..Said'. Prove '..Said' where nothing that the law and all that it calls make is longer than what came in: it says more and counts as full. Else prove '..UptoSaid'. A law counts once. -/
mutual
def uptoBulk {H : Type} : DataW H → Nat
  | .lit (.string bytes) => bytes.length + 1
  | .lit _ => 1
  | .nil => 1
  | .ptr d => uptoBulk d + 1
  | .slice elems spare => uptoBulkAll elems + uptoBulkAll spare + 1
  | .agg parts => uptoBulkAll parts + 1
  | .iface _ d => uptoBulk d + 1
  | .map entries => uptoBulkEntries entries + 1
  | .held _ => 1
def uptoBulkAll {H : Type} : List (DataW H) → Nat
  | [] => 0
  | d :: r => uptoBulk d + uptoBulkAll r
def uptoBulkEntries {H : Type} : List (Lit × DataW H) → Nat
  | [] => 0
  | x :: r => uptoBulkEntry x + uptoBulkEntries r
def uptoBulkEntry {H : Type} : Lit × DataW H → Nat
  | (.string bytes, d) => bytes.length + uptoBulk d + 1
  | (_, d) => uptoBulk d + 1
 end
def uptoSmall : (H : Type) → List (DataW H) → Bool := fun _ ds => decide (uptoBulkAll ds ≤ 1048576)
def OpenSpec.upto (s : _root_.Go.ChangeSpec) : _root_.Go.OpenSpec := { _root_.Go.OpenSpec.ofChange s with cond := some uptoSmall }

/-- 'scrivenerlaw22.ScrollClamps', WHERE WHAT IT READS IS OF BULK AT MOST 1048576: true; the input reads as it did. -/
def scrollClampsUptoRow : OpenClaim := { program := "ytgfmfkjebnllnaa", sum := "12d9c14c8c01f2efe918a5452fcd138ee0090320a4ab5f64a3a788952a236e58", func := "scrivener/scrivenerlaw22.ScrollClamps", spec := "scrollClamps", unfollowed := true, recurses := true, apart := false, narrowed := true }
def ScrollClampsUptoSaid : Prop := scrollClampsUptoRow.holds Try.pinned (OpenSpec.upto scrollClampsSpec)

/-- 'scrivenerlaw22.ScrollShifts', WHERE WHAT IT READS IS OF BULK AT MOST 1048576: true; the input reads as it did. -/
def scrollShiftsUptoRow : OpenClaim := { program := "ytgfmfkjebnllnaa", sum := "12d9c14c8c01f2efe918a5452fcd138ee0090320a4ab5f64a3a788952a236e58", func := "scrivener/scrivenerlaw22.ScrollShifts", spec := "scrollShifts", unfollowed := true, recurses := true, apart := false, narrowed := true }
def ScrollShiftsUptoSaid : Prop := scrollShiftsUptoRow.holds Try.pinned (OpenSpec.upto scrollShiftsSpec)

/-- 'scrivenerlaw22.ScrollReveals', WHERE WHAT IT READS IS OF BULK AT MOST 1048576: true; the input reads as it did. -/
def scrollRevealsUptoRow : OpenClaim := { program := "ytgfmfkjebnllnaa", sum := "12d9c14c8c01f2efe918a5452fcd138ee0090320a4ab5f64a3a788952a236e58", func := "scrivener/scrivenerlaw22.ScrollReveals", spec := "scrollReveals", unfollowed := true, recurses := true, apart := false, narrowed := true }
def ScrollRevealsUptoSaid : Prop := scrollRevealsUptoRow.holds Try.pinned (OpenSpec.upto scrollRevealsSpec)

/-- 'scrivenerlaw22.ScrollThumb', WHERE WHAT IT READS IS OF BULK AT MOST 1048576: true; the input reads as it did. -/
def scrollThumbUptoRow : OpenClaim := { program := "ytgfmfkjebnllnaa", sum := "12d9c14c8c01f2efe918a5452fcd138ee0090320a4ab5f64a3a788952a236e58", func := "scrivener/scrivenerlaw22.ScrollThumb", spec := "scrollThumb", unfollowed := true, recurses := true, apart := false, narrowed := true }
def ScrollThumbUptoSaid : Prop := scrollThumbUptoRow.holds Try.pinned (OpenSpec.upto scrollThumbSpec)

end Rows
end Go.Proofs.Ytgfmfkjebnllnaa
