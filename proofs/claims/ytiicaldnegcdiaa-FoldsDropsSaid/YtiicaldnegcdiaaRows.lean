/-
  No cell of these rows narrows 'for every input' (looked for: loops, veiled, ifaces, maps, wideKeys, modest, calm, conditions, laid).
  DERIVED. THE GIVEN ROWS OF THIS SEAT. 10 by the template 'for every input the law returns true; each argument reads behind the call as it read before'; 0 by the template 'total and deterministic' (their statements: YtiicaldnegcdiaaTotals.lean).
  GIVEN WITH THE SEED: the statements are not yours to turn. If you find one false, say at which input.
  Laid BY PROGRAM, IN A SANDBOX (cutbox-rows.mjs): the forced cells as the released guide's own fill.sh prints them over the translation 0efa829a1ff3f097… (all of the seat's roots in one cut). By AI agents, Wed Nov 11 2026. No macro, syntax, notation, axiom, sorry.
-/
import Derived.Test.YtiicaldnegcdiaaChecked
import GoSem.Claim
import GoSem.ClaimJoined
import GoSem.ClaimMapViews
import Derived.JoinedTies
import Derived.KernelRfl
namespace Go.Proofs.Ytiicaldnegcdiaa
/- THE CELL 'sum', in the pinned program and in every row, IS THE sha256 OF THE DUMP (.gsa) THAT YtiicaldnegcdiaaProg.lean LOADS. Nothing in Lean hashes anything: it is a label: what it is worth is what the hold of that sum in a sandbox is worth. -/
noncomputable def Try.pinned : Pinned := { name := "ytiicaldnegcdiaa", sum := "0efa829a1ff3f0970e4368d94822562920b25713698ed80476fd87f74bd35637", checked := Try.checked }
namespace Rows
def none {H : Type} : Left H := { results := [], args := [] }

/-- 'scrivenerlaw04.BandHas': WHATEVER THE INPUT: true; the input reads as it did. -/
def bandHasSpec : ChangeSpec := { name := "bandHas", fn := fun _ => fun
  | [d1, d2, d3] => { results := [.lit (.bool true)], args := [d1, d2, d3] }
  | _ => none }
def bandHasRow : OpenClaim := { program := "ytiicaldnegcdiaa", sum := "0efa829a1ff3f0970e4368d94822562920b25713698ed80476fd87f74bd35637", func := "scrivener/scrivenerlaw04.BandHas", spec := "bandHas", unfollowed := true, recurses := true, apart := false }
def BandHasSaid : Prop := bandHasRow.holds Try.pinned (OpenSpec.ofChange bandHasSpec)

/-- ITS FALSE NEIGHBOUR: 'it returns false'. Refute it at one input. -/
def bandHasWrong : ChangeSpec := { name := "bandHas", fn := fun _ => fun
  | [d1, d2, d3] => { results := [.lit (.bool false)], args := [d1, d2, d3] }
  | _ => none }
def BandHasWrongFalsely : Prop := bandHasRow.holds Try.pinned (OpenSpec.ofChange bandHasWrong)

/-- 'scrivenerlaw04.BandGood': WHATEVER THE INPUT: true; the input reads as it did. -/
def bandGoodSpec : ChangeSpec := { name := "bandGood", fn := fun _ => fun
  | [d1, d2] => { results := [.lit (.bool true)], args := [d1, d2] }
  | _ => none }
def bandGoodRow : OpenClaim := { program := "ytiicaldnegcdiaa", sum := "0efa829a1ff3f0970e4368d94822562920b25713698ed80476fd87f74bd35637", func := "scrivener/scrivenerlaw04.BandGood", spec := "bandGood", unfollowed := true, recurses := true, apart := false }
def BandGoodSaid : Prop := bandGoodRow.holds Try.pinned (OpenSpec.ofChange bandGoodSpec)

/-- ITS FALSE NEIGHBOUR: 'it returns false'. Refute it at one input. -/
def bandGoodWrong : ChangeSpec := { name := "bandGood", fn := fun _ => fun
  | [d1, d2] => { results := [.lit (.bool false)], args := [d1, d2] }
  | _ => none }
def BandGoodWrongFalsely : Prop := bandGoodRow.holds Try.pinned (OpenSpec.ofChange bandGoodWrong)

/-- 'scrivenerlaw04.BandHeight': WHATEVER THE INPUT: true; the input reads as it did. -/
def bandHeightSpec : ChangeSpec := { name := "bandHeight", fn := fun _ => fun
  | [d] => { results := [.lit (.bool true)], args := [d] }
  | _ => none }
def bandHeightRow : OpenClaim := { program := "ytiicaldnegcdiaa", sum := "0efa829a1ff3f0970e4368d94822562920b25713698ed80476fd87f74bd35637", func := "scrivener/scrivenerlaw04.BandHeight", spec := "bandHeight", unfollowed := true, recurses := true, apart := false }
def BandHeightSaid : Prop := bandHeightRow.holds Try.pinned (OpenSpec.ofChange bandHeightSpec)

/-- ITS FALSE NEIGHBOUR: 'it returns false'. Refute it at one input. -/
def bandHeightWrong : ChangeSpec := { name := "bandHeight", fn := fun _ => fun
  | [d] => { results := [.lit (.bool false)], args := [d] }
  | _ => none }
def BandHeightWrongFalsely : Prop := bandHeightRow.holds Try.pinned (OpenSpec.ofChange bandHeightWrong)

/-- 'scrivenerlaw11.RopeTells': WHATEVER THE INPUT: true; the input reads as it did. -/
def ropeTellsSpec : ChangeSpec := { name := "ropeTells", fn := fun _ => fun
  | [d1, d2, d3] => { results := [.lit (.bool true)], args := [d1, d2, d3] }
  | _ => none }
def ropeTellsRow : OpenClaim := { program := "ytiicaldnegcdiaa", sum := "0efa829a1ff3f0970e4368d94822562920b25713698ed80476fd87f74bd35637", func := "scrivener/scrivenerlaw11.RopeTells", spec := "ropeTells", inPlace := ["internal/bytealg.Count", "internal/bytealg.IndexByte", "internal/bytealg.Index"], unfollowed := true, recurses := true, named := ["internal/bytealg.MaxLen"], apart := false }
def RopeTellsSaid : Prop := ropeTellsRow.holds Try.pinned (OpenSpec.ofChange ropeTellsSpec)

/-- ITS FALSE NEIGHBOUR: 'it returns false'. Refute it at one input. -/
def ropeTellsWrong : ChangeSpec := { name := "ropeTells", fn := fun _ => fun
  | [d1, d2, d3] => { results := [.lit (.bool false)], args := [d1, d2, d3] }
  | _ => none }
def RopeTellsWrongFalsely : Prop := ropeTellsRow.holds Try.pinned (OpenSpec.ofChange ropeTellsWrong)

/-- 'scrivenerlaw12.TextLines': WHATEVER THE INPUT: true; the input reads as it did. -/
def textLinesSpec : ChangeSpec := { name := "textLines", fn := fun _ => fun
  | [d1, d2, d3] => { results := [.lit (.bool true)], args := [d1, d2, d3] }
  | _ => none }
def textLinesRow : OpenClaim := { program := "ytiicaldnegcdiaa", sum := "0efa829a1ff3f0970e4368d94822562920b25713698ed80476fd87f74bd35637", func := "scrivener/scrivenerlaw12.TextLines", spec := "textLines", inPlace := ["internal/bytealg.Count", "internal/bytealg.IndexByte", "internal/bytealg.Index"], unfollowed := true, recurses := true, named := ["internal/bytealg.MaxLen"], apart := false }
def TextLinesSaid : Prop := textLinesRow.holds Try.pinned (OpenSpec.ofChange textLinesSpec)

/-- ITS FALSE NEIGHBOUR: 'it returns false'. Refute it at one input. -/
def textLinesWrong : ChangeSpec := { name := "textLines", fn := fun _ => fun
  | [d1, d2, d3] => { results := [.lit (.bool false)], args := [d1, d2, d3] }
  | _ => none }
def TextLinesWrongFalsely : Prop := textLinesRow.holds Try.pinned (OpenSpec.ofChange textLinesWrong)

/-- 'scrivenerlaw12.TextPlaces': WHATEVER THE INPUT: true; the input reads as it did. -/
def textPlacesSpec : ChangeSpec := { name := "textPlaces", fn := fun _ => fun
  | [d1, d2, d3] => { results := [.lit (.bool true)], args := [d1, d2, d3] }
  | _ => none }
def textPlacesRow : OpenClaim := { program := "ytiicaldnegcdiaa", sum := "0efa829a1ff3f0970e4368d94822562920b25713698ed80476fd87f74bd35637", func := "scrivener/scrivenerlaw12.TextPlaces", spec := "textPlaces", inPlace := ["internal/bytealg.Count", "internal/bytealg.IndexByte", "internal/bytealg.Index"], unfollowed := true, recurses := true, named := ["internal/bytealg.MaxLen"], apart := false }
def TextPlacesSaid : Prop := textPlacesRow.holds Try.pinned (OpenSpec.ofChange textPlacesSpec)

/-- ITS FALSE NEIGHBOUR: 'it returns false'. Refute it at one input. -/
def textPlacesWrong : ChangeSpec := { name := "textPlaces", fn := fun _ => fun
  | [d1, d2, d3] => { results := [.lit (.bool false)], args := [d1, d2, d3] }
  | _ => none }
def TextPlacesWrongFalsely : Prop := textPlacesRow.holds Try.pinned (OpenSpec.ofChange textPlacesWrong)

/-- 'scrivenerlaw13.MarkSpans': WHATEVER THE INPUT: true; the input reads as it did. -/
def markSpansSpec : ChangeSpec := { name := "markSpans", fn := fun _ => fun
  | [d1, d2] => { results := [.lit (.bool true)], args := [d1, d2] }
  | _ => none }
def markSpansRow : OpenClaim := { program := "ytiicaldnegcdiaa", sum := "0efa829a1ff3f0970e4368d94822562920b25713698ed80476fd87f74bd35637", func := "scrivener/scrivenerlaw13.MarkSpans", spec := "markSpans", apart := false }
def MarkSpansSaid : Prop := markSpansRow.holds Try.pinned (OpenSpec.ofChange markSpansSpec)

/-- ITS FALSE NEIGHBOUR: 'it returns false'. Refute it at one input. -/
def markSpansWrong : ChangeSpec := { name := "markSpans", fn := fun _ => fun
  | [d1, d2] => { results := [.lit (.bool false)], args := [d1, d2] }
  | _ => none }
def MarkSpansWrongFalsely : Prop := markSpansRow.holds Try.pinned (OpenSpec.ofChange markSpansWrong)

/-- 'scrivenerlaw13.MarkKeeps': WHATEVER THE INPUT: true; the input reads as it did. -/
def markKeepsSpec : ChangeSpec := { name := "markKeeps", fn := fun _ => fun
  | [d1, d2, d3] => { results := [.lit (.bool true)], args := [d1, d2, d3] }
  | _ => none }
def markKeepsRow : OpenClaim := { program := "ytiicaldnegcdiaa", sum := "0efa829a1ff3f0970e4368d94822562920b25713698ed80476fd87f74bd35637", func := "scrivener/scrivenerlaw13.MarkKeeps", spec := "markKeeps", apart := false }
def MarkKeepsSaid : Prop := markKeepsRow.holds Try.pinned (OpenSpec.ofChange markKeepsSpec)

/-- ITS FALSE NEIGHBOUR: 'it returns false'. Refute it at one input. -/
def markKeepsWrong : ChangeSpec := { name := "markKeeps", fn := fun _ => fun
  | [d1, d2, d3] => { results := [.lit (.bool false)], args := [d1, d2, d3] }
  | _ => none }
def MarkKeepsWrongFalsely : Prop := markKeepsRow.holds Try.pinned (OpenSpec.ofChange markKeepsWrong)

/-- 'scrivenerlaw14.FoldsAdds': WHATEVER THE INPUT: true; the input reads as it did. -/
def foldsAddsSpec : ChangeSpec := { name := "foldsAdds", fn := fun _ => fun
  | [d1, d2, d3] => { results := [.lit (.bool true)], args := [d1, d2, d3] }
  | _ => none }
def foldsAddsRow : OpenClaim := { program := "ytiicaldnegcdiaa", sum := "0efa829a1ff3f0970e4368d94822562920b25713698ed80476fd87f74bd35637", func := "scrivener/scrivenerlaw14.FoldsAdds", spec := "foldsAdds", inPlace := ["internal/bytealg.Count", "internal/bytealg.IndexByte", "internal/bytealg.Index"], unfollowed := true, recurses := true, named := ["internal/bytealg.MaxLen"], apart := false }
def FoldsAddsSaid : Prop := foldsAddsRow.holds Try.pinned (OpenSpec.ofChange foldsAddsSpec)

/-- ITS FALSE NEIGHBOUR: 'it returns false'. Refute it at one input. -/
def foldsAddsWrong : ChangeSpec := { name := "foldsAdds", fn := fun _ => fun
  | [d1, d2, d3] => { results := [.lit (.bool false)], args := [d1, d2, d3] }
  | _ => none }
def FoldsAddsWrongFalsely : Prop := foldsAddsRow.holds Try.pinned (OpenSpec.ofChange foldsAddsWrong)

/-- 'scrivenerlaw14.FoldsDrops': WHATEVER THE INPUT: true; the input reads as it did. -/
def foldsDropsSpec : ChangeSpec := { name := "foldsDrops", fn := fun _ => fun
  | [d1, d2] => { results := [.lit (.bool true)], args := [d1, d2] }
  | _ => none }
def foldsDropsRow : OpenClaim := { program := "ytiicaldnegcdiaa", sum := "0efa829a1ff3f0970e4368d94822562920b25713698ed80476fd87f74bd35637", func := "scrivener/scrivenerlaw14.FoldsDrops", spec := "foldsDrops", inPlace := ["internal/bytealg.Count", "internal/bytealg.IndexByte", "internal/bytealg.Index"], unfollowed := true, recurses := true, named := ["internal/bytealg.MaxLen"], apart := false }
def FoldsDropsSaid : Prop := foldsDropsRow.holds Try.pinned (OpenSpec.ofChange foldsDropsSpec)

/-- ITS FALSE NEIGHBOUR: 'it returns false'. Refute it at one input. -/
def foldsDropsWrong : ChangeSpec := { name := "foldsDrops", fn := fun _ => fun
  | [d1, d2] => { results := [.lit (.bool false)], args := [d1, d2] }
  | _ => none }
def FoldsDropsWrongFalsely : Prop := foldsDropsRow.holds Try.pinned (OpenSpec.ofChange foldsDropsWrong)

/- THE SECOND FORM. 'bulk': how many values and letters a reading holds, each counted each time it is reached (what is shared counts as often as it is met; a slice's spare places count too). A statement '..UptoSaid' is the law's where the arguments, and the package variables that the reading takes, are together of bulk at most 1048576: NARROWER than '..Said'. Prove '..Said' where nothing that the law and all that it calls make is longer than what came in: it says more and counts as full. Else prove '..UptoSaid'. A law counts once. -/
mutual
def uptoBulk {H : Type} : DataW H → Nat
  | .lit (.string bytes) => bytes.length + 1
  | .lit _ => 1
  | .nil => 1
  | .ptr d => uptoBulk d + 1
  | .slice elems spare => uptoBulkAll elems + uptoBulkAll spare + 1
  | .agg parts => uptoBulkAll parts + 1
  | .iface _ d => uptoBulk d + 1
  | .map entries => uptoBulkEntries entries + 1
  | .held _ => 1
def uptoBulkAll {H : Type} : List (DataW H) → Nat
  | [] => 0
  | d :: r => uptoBulk d + uptoBulkAll r
def uptoBulkEntries {H : Type} : List (Lit × DataW H) → Nat
  | [] => 0
  | x :: r => uptoBulkEntry x + uptoBulkEntries r
def uptoBulkEntry {H : Type} : Lit × DataW H → Nat
  | (.string bytes, d) => bytes.length + uptoBulk d + 1
  | (_, d) => uptoBulk d + 1
 end
def uptoSmall : (H : Type) → List (DataW H) → Bool := fun _ ds => decide (uptoBulkAll ds ≤ 1048576)
def OpenSpec.upto (s : _root_.Go.ChangeSpec) : _root_.Go.OpenSpec := { _root_.Go.OpenSpec.ofChange s with cond := some uptoSmall }

/-- 'scrivenerlaw04.BandHas', WHERE WHAT IT READS IS OF BULK AT MOST 1048576: true; the input reads as it did. -/
def bandHasUptoRow : OpenClaim := { program := "ytiicaldnegcdiaa", sum := "0efa829a1ff3f0970e4368d94822562920b25713698ed80476fd87f74bd35637", func := "scrivener/scrivenerlaw04.BandHas", spec := "bandHas", unfollowed := true, recurses := true, apart := false, narrowed := true }
def BandHasUptoSaid : Prop := bandHasUptoRow.holds Try.pinned (OpenSpec.upto bandHasSpec)

/-- 'scrivenerlaw04.BandGood', WHERE WHAT IT READS IS OF BULK AT MOST 1048576: true; the input reads as it did. -/
def bandGoodUptoRow : OpenClaim := { program := "ytiicaldnegcdiaa", sum := "0efa829a1ff3f0970e4368d94822562920b25713698ed80476fd87f74bd35637", func := "scrivener/scrivenerlaw04.BandGood", spec := "bandGood", unfollowed := true, recurses := true, apart := false, narrowed := true }
def BandGoodUptoSaid : Prop := bandGoodUptoRow.holds Try.pinned (OpenSpec.upto bandGoodSpec)

/-- 'scrivenerlaw04.BandHeight', WHERE WHAT IT READS IS OF BULK AT MOST 1048576: true; the input reads as it did. -/
def bandHeightUptoRow : OpenClaim := { program := "ytiicaldnegcdiaa", sum := "0efa829a1ff3f0970e4368d94822562920b25713698ed80476fd87f74bd35637", func := "scrivener/scrivenerlaw04.BandHeight", spec := "bandHeight", unfollowed := true, recurses := true, apart := false, narrowed := true }
def BandHeightUptoSaid : Prop := bandHeightUptoRow.holds Try.pinned (OpenSpec.upto bandHeightSpec)

/-- 'scrivenerlaw11.RopeTells', WHERE WHAT IT READS IS OF BULK AT MOST 1048576: true; the input reads as it did. -/
def ropeTellsUptoRow : OpenClaim := { program := "ytiicaldnegcdiaa", sum := "0efa829a1ff3f0970e4368d94822562920b25713698ed80476fd87f74bd35637", func := "scrivener/scrivenerlaw11.RopeTells", spec := "ropeTells", inPlace := ["internal/bytealg.Count", "internal/bytealg.IndexByte", "internal/bytealg.Index"], unfollowed := true, recurses := true, named := ["internal/bytealg.MaxLen"], apart := false, narrowed := true }
def RopeTellsUptoSaid : Prop := ropeTellsUptoRow.holds Try.pinned (OpenSpec.upto ropeTellsSpec)

/-- 'scrivenerlaw12.TextLines', WHERE WHAT IT READS IS OF BULK AT MOST 1048576: true; the input reads as it did. -/
def textLinesUptoRow : OpenClaim := { program := "ytiicaldnegcdiaa", sum := "0efa829a1ff3f0970e4368d94822562920b25713698ed80476fd87f74bd35637", func := "scrivener/scrivenerlaw12.TextLines", spec := "textLines", inPlace := ["internal/bytealg.Count", "internal/bytealg.IndexByte", "internal/bytealg.Index"], unfollowed := true, recurses := true, named := ["internal/bytealg.MaxLen"], apart := false, narrowed := true }
def TextLinesUptoSaid : Prop := textLinesUptoRow.holds Try.pinned (OpenSpec.upto textLinesSpec)

/-- 'scrivenerlaw12.TextPlaces', WHERE WHAT IT READS IS OF BULK AT MOST 1048576: true; the input reads as it did. -/
def textPlacesUptoRow : OpenClaim := { program := "ytiicaldnegcdiaa", sum := "0efa829a1ff3f0970e4368d94822562920b25713698ed80476fd87f74bd35637", func := "scrivener/scrivenerlaw12.TextPlaces", spec := "textPlaces", inPlace := ["internal/bytealg.Count", "internal/bytealg.IndexByte", "internal/bytealg.Index"], unfollowed := true, recurses := true, named := ["internal/bytealg.MaxLen"], apart := false, narrowed := true }
def TextPlacesUptoSaid : Prop := textPlacesUptoRow.holds Try.pinned (OpenSpec.upto textPlacesSpec)

/-- 'scrivenerlaw13.MarkSpans', WHERE WHAT IT READS IS OF BULK AT MOST 1048576: true; the input reads as it did. -/
def markSpansUptoRow : OpenClaim := { program := "ytiicaldnegcdiaa", sum := "0efa829a1ff3f0970e4368d94822562920b25713698ed80476fd87f74bd35637", func := "scrivener/scrivenerlaw13.MarkSpans", spec := "markSpans", apart := false, narrowed := true }
def MarkSpansUptoSaid : Prop := markSpansUptoRow.holds Try.pinned (OpenSpec.upto markSpansSpec)

/-- 'scrivenerlaw13.MarkKeeps', WHERE WHAT IT READS IS OF BULK AT MOST 1048576: true; the input reads as it did. -/
def markKeepsUptoRow : OpenClaim := { program := "ytiicaldnegcdiaa", sum := "0efa829a1ff3f0970e4368d94822562920b25713698ed80476fd87f74bd35637", func := "scrivener/scrivenerlaw13.MarkKeeps", spec := "markKeeps", apart := false, narrowed := true }
def MarkKeepsUptoSaid : Prop := markKeepsUptoRow.holds Try.pinned (OpenSpec.upto markKeepsSpec)

/-- 'scrivenerlaw14.FoldsAdds', WHERE WHAT IT READS IS OF BULK AT MOST 1048576: true; the input reads as it did. -/
def foldsAddsUptoRow : OpenClaim := { program := "ytiicaldnegcdiaa", sum := "0efa829a1ff3f0970e4368d94822562920b25713698ed80476fd87f74bd35637", func := "scrivener/scrivenerlaw14.FoldsAdds", spec := "foldsAdds", inPlace := ["internal/bytealg.Count", "internal/bytealg.IndexByte", "internal/bytealg.Index"], unfollowed := true, recurses := true, named := ["internal/bytealg.MaxLen"], apart := false, narrowed := true }
def FoldsAddsUptoSaid : Prop := foldsAddsUptoRow.holds Try.pinned (OpenSpec.upto foldsAddsSpec)

/-- 'scrivenerlaw14.FoldsDrops', WHERE WHAT IT READS IS OF BULK AT MOST 1048576: true; the input reads as it did. -/
def foldsDropsUptoRow : OpenClaim := { program := "ytiicaldnegcdiaa", sum := "0efa829a1ff3f0970e4368d94822562920b25713698ed80476fd87f74bd35637", func := "scrivener/scrivenerlaw14.FoldsDrops", spec := "foldsDrops", inPlace := ["internal/bytealg.Count", "internal/bytealg.IndexByte", "internal/bytealg.Index"], unfollowed := true, recurses := true, named := ["internal/bytealg.MaxLen"], apart := false, narrowed := true }
def FoldsDropsUptoSaid : Prop := foldsDropsUptoRow.holds Try.pinned (OpenSpec.upto foldsDropsSpec)

end Rows
end Go.Proofs.Ytiicaldnegcdiaa
