/-
  NARROWER THAN 'FOR EVERY INPUT', by the rows' own cells (each row's printed sentence says how): ScenePlays: laid · SceneLittle: laid · SceneNew: laid · SceneNone: laid.
  DERIVED. THE GIVEN ROWS OF THIS SEAT. 4 by the template 'for every input the law returns true; each argument reads behind the call as it read before'; 0 by the template 'total and deterministic' (their statements: YtamhnffokoejjaaGreatDoorTotals.lean).
  GIVEN WITH THE SEED: the statements are not yours to turn. If you find one false, say at which input.
  Laid BY PROGRAM, IN A SANDBOX (cutbox-rows.mjs): the forced cells as the released guide's own fill.sh prints them over the translation f894fd207bc445bf… (all of the seat's roots in one cut). By AI agents, Wed Nov 11 2026. No macro, syntax, notation, axiom, sorry.
-/
import Derived.Test.YtamhnffokoejjaaGreatDoorChecked
import GoSem.Claim
import GoSem.ClaimJoined
import GoSem.ClaimMapViews
import Derived.JoinedTies
import Derived.KernelRfl
namespace Go.Proofs.YtamhnffokoejjaaGreatDoor
/- THE CELL 'sum', in the pinned program and in every row, IS THE sha256 OF THE DUMP (.gsa) THAT YtamhnffokoejjaaGreatDoorProg.lean LOADS. Nothing in Lean hashes anything: it is a label: what it is worth is what the hold of that sum in a sandbox is worth. -/
noncomputable def Tryz.pinned : Pinned := { name := "ytamhnffokoejjaagreatdoor", sum := "f894fd207bc445bfc9a4bcdbb896a1f581c8a83907b2ff537f6613f8bd7ddd2a", checked := Tryz.checked }
namespace Rows
def none {H : Type} : Left H := { results := [], args := [] }

/- WHAT THE LISTED PACKAGE-LEVEL VARIABLES READ AS WHEN THE CALL BEGINS. Each datum BY PROGRAM (the guide's laid-datum.mjs) off the statement by which the dump's own 'gosem.cut.vars' lays the variable. In a bare row this is a premise. The card (YtamhnffokoejjaaGreatDoorCards.lean) ties it to the program's text. -/
def laid_scrivener_utf_heads {H : Type} : DataW H := .agg [.lit (.int .u8 0), .lit (.int .u8 0), .lit (.int .u8 192), .lit (.int .u8 224), .lit (.int .u8 240)]

/-- 'scrivenerlaw23.ScenePlays': WHATEVER THE INPUT: true; the input reads as it did. -/
def scenePlaysSpec : ChangeSpec := { name := "scenePlays", fn := fun _ => fun
  | [d1, d2, d3] => { results := [.lit (.bool true)], args := [d1, d2, d3] }
  | _ => none }
def scenePlaysRow : OpenClaim := { program := "ytamhnffokoejjaagreatdoor", sum := "f894fd207bc445bfc9a4bcdbb896a1f581c8a83907b2ff537f6613f8bd7ddd2a", func := "scrivener/scrivenerlaw23.ScenePlays", spec := "scenePlays", inPlace := ["internal/bytealg.Count", "internal/bytealg.IndexByte", "internal/bytealg.Index", "slices.overlaps[*scrivener/seq.Seq]"], unfollowed := true, recurses := true, named := ["internal/bytealg.MaxLen", "scrivener/utf.heads"], apart := false, laid := [("scrivener/utf.heads", laid_scrivener_utf_heads)] }
def ScenePlaysSaid : Prop := scenePlaysRow.holds Tryz.pinned (OpenSpec.ofChange scenePlaysSpec)

/-- ITS FALSE NEIGHBOUR: 'it returns false'. Refute it at one input. -/
def scenePlaysWrong : ChangeSpec := { name := "scenePlays", fn := fun _ => fun
  | [d1, d2, d3] => { results := [.lit (.bool false)], args := [d1, d2, d3] }
  | _ => none }
def ScenePlaysWrongFalsely : Prop := scenePlaysRow.holds Tryz.pinned (OpenSpec.ofChange scenePlaysWrong)

/-- 'scrivenerlaw23.SceneLittle': WHATEVER THE INPUT: true; the input reads as it did. -/
def sceneLittleSpec : ChangeSpec := { name := "sceneLittle", fn := fun _ => fun
  | [d1, d2] => { results := [.lit (.bool true)], args := [d1, d2] }
  | _ => none }
def sceneLittleRow : OpenClaim := { program := "ytamhnffokoejjaagreatdoor", sum := "f894fd207bc445bfc9a4bcdbb896a1f581c8a83907b2ff537f6613f8bd7ddd2a", func := "scrivener/scrivenerlaw23.SceneLittle", spec := "sceneLittle", inPlace := ["internal/bytealg.Count", "internal/bytealg.IndexByte", "internal/bytealg.Index", "slices.overlaps[*scrivener/seq.Seq]"], unfollowed := true, recurses := true, named := ["internal/bytealg.MaxLen", "scrivener/utf.heads"], apart := false, laid := [("scrivener/utf.heads", laid_scrivener_utf_heads)] }
def SceneLittleSaid : Prop := sceneLittleRow.holds Tryz.pinned (OpenSpec.ofChange sceneLittleSpec)

/-- ITS FALSE NEIGHBOUR: 'it returns false'. Refute it at one input. -/
def sceneLittleWrong : ChangeSpec := { name := "sceneLittle", fn := fun _ => fun
  | [d1, d2] => { results := [.lit (.bool false)], args := [d1, d2] }
  | _ => none }
def SceneLittleWrongFalsely : Prop := sceneLittleRow.holds Tryz.pinned (OpenSpec.ofChange sceneLittleWrong)

/-- 'scrivenerlaw23.SceneNew': WHATEVER THE INPUT: true; the input reads as it did. -/
def sceneNewSpec : ChangeSpec := { name := "sceneNew", fn := fun _ => fun
  | [d1, d2] => { results := [.lit (.bool true)], args := [d1, d2] }
  | _ => none }
def sceneNewRow : OpenClaim := { program := "ytamhnffokoejjaagreatdoor", sum := "f894fd207bc445bfc9a4bcdbb896a1f581c8a83907b2ff537f6613f8bd7ddd2a", func := "scrivener/scrivenerlaw23.SceneNew", spec := "sceneNew", inPlace := ["internal/bytealg.Count", "internal/bytealg.IndexByte", "internal/bytealg.Index", "slices.overlaps[*scrivener/seq.Seq]"], unfollowed := true, recurses := true, named := ["internal/bytealg.MaxLen", "scrivener/utf.heads"], apart := false, laid := [("scrivener/utf.heads", laid_scrivener_utf_heads)] }
def SceneNewSaid : Prop := sceneNewRow.holds Tryz.pinned (OpenSpec.ofChange sceneNewSpec)

/-- ITS FALSE NEIGHBOUR: 'it returns false'. Refute it at one input. -/
def sceneNewWrong : ChangeSpec := { name := "sceneNew", fn := fun _ => fun
  | [d1, d2] => { results := [.lit (.bool false)], args := [d1, d2] }
  | _ => none }
def SceneNewWrongFalsely : Prop := sceneNewRow.holds Tryz.pinned (OpenSpec.ofChange sceneNewWrong)

/-- 'scrivenerlaw23.SceneNone': WHATEVER THE INPUT: true; the input reads as it did. -/
def sceneNoneSpec : ChangeSpec := { name := "sceneNone", fn := fun _ => fun
  | [d] => { results := [.lit (.bool true)], args := [d] }
  | _ => none }
def sceneNoneRow : OpenClaim := { program := "ytamhnffokoejjaagreatdoor", sum := "f894fd207bc445bfc9a4bcdbb896a1f581c8a83907b2ff537f6613f8bd7ddd2a", func := "scrivener/scrivenerlaw23.SceneNone", spec := "sceneNone", inPlace := ["internal/bytealg.Count", "internal/bytealg.IndexByte", "internal/bytealg.Index", "slices.overlaps[*scrivener/seq.Seq]"], unfollowed := true, recurses := true, named := ["scrivener/utf.heads", "internal/bytealg.MaxLen"], apart := false, laid := [("scrivener/utf.heads", laid_scrivener_utf_heads)] }
def SceneNoneSaid : Prop := sceneNoneRow.holds Tryz.pinned (OpenSpec.ofChange sceneNoneSpec)

/-- ITS FALSE NEIGHBOUR: 'it returns false'. Refute it at one input. -/
def sceneNoneWrong : ChangeSpec := { name := "sceneNone", fn := fun _ => fun
  | [d] => { results := [.lit (.bool false)], args := [d] }
  | _ => none }
def SceneNoneWrongFalsely : Prop := sceneNoneRow.holds Tryz.pinned (OpenSpec.ofChange sceneNoneWrong)

/- THE SECOND FORM. 'bulk': how many values and letters a reading holds, each counted each time it is reached (what is shared counts as often as it is met; a slice's spare places count too). A statement '..UptoSaid' is the law's where the arguments, and the package variables that the reading takes, are together of bulk at most 1048576: NARROWER than '..Said'. Prove '..Said' where nothing that the law and all that it calls make is longer than what came in: it says more and counts as full. Else prove '..UptoSaid'. A law counts once. -/
mutual
def uptoBulk {H : Type} : DataW H → Nat
  | .lit (.string bytes) => bytes.length + 1
  | .lit _ => 1
  | .nil => 1
  | .ptr d => uptoBulk d + 1
  | .slice elems spare => uptoBulkAll elems + uptoBulkAll spare + 1
  | .agg parts => uptoBulkAll parts + 1
  | .iface _ d => uptoBulk d + 1
  | .map entries => uptoBulkEntries entries + 1
  | .held _ => 1
def uptoBulkAll {H : Type} : List (DataW H) → Nat
  | [] => 0
  | d :: r => uptoBulk d + uptoBulkAll r
def uptoBulkEntries {H : Type} : List (Lit × DataW H) → Nat
  | [] => 0
  | x :: r => uptoBulkEntry x + uptoBulkEntries r
def uptoBulkEntry {H : Type} : Lit × DataW H → Nat
  | (.string bytes, d) => bytes.length + uptoBulk d + 1
  | (_, d) => uptoBulk d + 1
 end
def uptoSmall : (H : Type) → List (DataW H) → Bool := fun _ ds => decide (uptoBulkAll ds ≤ 1048576)
def OpenSpec.upto (s : _root_.Go.ChangeSpec) : _root_.Go.OpenSpec := { _root_.Go.OpenSpec.ofChange s with cond := some uptoSmall }

/-- 'scrivenerlaw23.ScenePlays', WHERE WHAT IT READS IS OF BULK AT MOST 1048576: true; the input reads as it did. -/
def scenePlaysUptoRow : OpenClaim := { program := "ytamhnffokoejjaagreatdoor", sum := "f894fd207bc445bfc9a4bcdbb896a1f581c8a83907b2ff537f6613f8bd7ddd2a", func := "scrivener/scrivenerlaw23.ScenePlays", spec := "scenePlays", inPlace := ["internal/bytealg.Count", "internal/bytealg.IndexByte", "internal/bytealg.Index", "slices.overlaps[*scrivener/seq.Seq]"], unfollowed := true, recurses := true, named := ["internal/bytealg.MaxLen", "scrivener/utf.heads"], apart := false, laid := [("scrivener/utf.heads", laid_scrivener_utf_heads)], narrowed := true }
def ScenePlaysUptoSaid : Prop := scenePlaysUptoRow.holds Tryz.pinned (OpenSpec.upto scenePlaysSpec)

/-- 'scrivenerlaw23.SceneLittle', WHERE WHAT IT READS IS OF BULK AT MOST 1048576: true; the input reads as it did. -/
def sceneLittleUptoRow : OpenClaim := { program := "ytamhnffokoejjaagreatdoor", sum := "f894fd207bc445bfc9a4bcdbb896a1f581c8a83907b2ff537f6613f8bd7ddd2a", func := "scrivener/scrivenerlaw23.SceneLittle", spec := "sceneLittle", inPlace := ["internal/bytealg.Count", "internal/bytealg.IndexByte", "internal/bytealg.Index", "slices.overlaps[*scrivener/seq.Seq]"], unfollowed := true, recurses := true, named := ["internal/bytealg.MaxLen", "scrivener/utf.heads"], apart := false, laid := [("scrivener/utf.heads", laid_scrivener_utf_heads)], narrowed := true }
def SceneLittleUptoSaid : Prop := sceneLittleUptoRow.holds Tryz.pinned (OpenSpec.upto sceneLittleSpec)

/-- 'scrivenerlaw23.SceneNew', WHERE WHAT IT READS IS OF BULK AT MOST 1048576: true; the input reads as it did. -/
def sceneNewUptoRow : OpenClaim := { program := "ytamhnffokoejjaagreatdoor", sum := "f894fd207bc445bfc9a4bcdbb896a1f581c8a83907b2ff537f6613f8bd7ddd2a", func := "scrivener/scrivenerlaw23.SceneNew", spec := "sceneNew", inPlace := ["internal/bytealg.Count", "internal/bytealg.IndexByte", "internal/bytealg.Index", "slices.overlaps[*scrivener/seq.Seq]"], unfollowed := true, recurses := true, named := ["internal/bytealg.MaxLen", "scrivener/utf.heads"], apart := false, laid := [("scrivener/utf.heads", laid_scrivener_utf_heads)], narrowed := true }
def SceneNewUptoSaid : Prop := sceneNewUptoRow.holds Tryz.pinned (OpenSpec.upto sceneNewSpec)

/-- 'scrivenerlaw23.SceneNone', WHERE WHAT IT READS IS OF BULK AT MOST 1048576: true; the input reads as it did. -/
def sceneNoneUptoRow : OpenClaim := { program := "ytamhnffokoejjaagreatdoor", sum := "f894fd207bc445bfc9a4bcdbb896a1f581c8a83907b2ff537f6613f8bd7ddd2a", func := "scrivener/scrivenerlaw23.SceneNone", spec := "sceneNone", inPlace := ["internal/bytealg.Count", "internal/bytealg.IndexByte", "internal/bytealg.Index", "slices.overlaps[*scrivener/seq.Seq]"], unfollowed := true, recurses := true, named := ["scrivener/utf.heads", "internal/bytealg.MaxLen"], apart := false, laid := [("scrivener/utf.heads", laid_scrivener_utf_heads)], narrowed := true }
def SceneNoneUptoSaid : Prop := sceneNoneUptoRow.holds Tryz.pinned (OpenSpec.upto sceneNoneSpec)

end Rows
end Go.Proofs.YtamhnffokoejjaaGreatDoor
