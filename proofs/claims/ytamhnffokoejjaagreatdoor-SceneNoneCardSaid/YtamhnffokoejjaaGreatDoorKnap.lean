/- what the proof stands on: FldC -/
import Derived.BigQuiet
import Derived.Lib.SliceRun
import Derived.Laws.StructEq
import Derived.Deep.QuietTactic
import Derived.Deep.LoopGhost
import Derived.LoopN
import Derived.Lib.AppendZeros
import Derived.Test.YtamhnffokoejjaaGreatDoorChecked
import Derived.Test.YtamhnffokoejjaaGreatDoorKnaf
import Derived.Test.YtamhnffokoejjaaGreatDoorKnaj
import Derived.Test.YtamhnffokoejjaaGreatDoorKnad
import Derived.Test.YtamhnffokoejjaaGreatDoorKnan
namespace Go.Proofs.YtamhnffokoejjaaGreatDoor
set_option linter.unusedSimpArgs false
set_option linter.unusedVariables false
set_option linter.unusedSectionVars false
open Go.RowKit
def QT (w : World) (v : Value) (l : Qs) : Prop := QR w v l ∧ ∀ b, vblk v = some b → ∃ cs, w.heap[b]? = some (.cells cs 69)
theorem QT.later {w w' : World} {v : Value} {l : Qs} (h : QT w v l) (a : AnyLater w w') : QT w' v l := ⟨h.1.later a, fun b hb => by
  obtain ⟨cs, hc⟩ := h.2 b hb
  exact ⟨cs, any_own a hc⟩⟩
theorem QT.void (w : World) : QT w (.slice none 0 0) [] := ⟨QR.void _ _ _, fun b hb => by cases hb⟩
end Go.Proofs.YtamhnffokoejjaaGreatDoor
