/- shade: styles and colours as plain mathematics. -/
import Derived.Test.YteplnejnhgmfiaaDoorOwn
import Derived.Test.YteplnejnhgmfiaaDoorFree
import Derived.Test.YteplnejnhgmfiaaDoorRows
import Derived.BigQuiet
import Derived.Deep.LoopGhost
import Derived.Deep.DeepCutAuto
import Derived.Deep.CutBlock
namespace Go.Proofs.YteplnejnhgmfiaaDoor
set_option linter.unusedSimpArgs false
set_option linter.unusedVariables false
set_option linter.unusedSectionVars false
open Go.RowKit

def goodS (s : Int) : Bool := decide (0 ≤ s ∧ s < 24)
theorem goodS_in {s : Int} (h : goodS s = true) : 0 ≤ s ∧ s < 24 := of_decide_eq_true h
abbrev I64s (x : Int) : Prop := -9223372036854775808 ≤ x ∧ x ≤ 9223372036854775807
def faceS (s : Int) : Int := if goodS s = true then s % 3 else 0
def inkL : List Int := [0, 2105472, 2125856, 8396832, 8413184, 26728, 7348336, 5263440]
def inkS (s : Int) : Int := if goodS s = true then inkL.getD (s / 3).toNat 0 else 0
def mayS (f i : Int) : Bool := decide (0 ≤ f ∧ f ≤ 2 ∧ 0 ≤ i ∧ i ≤ 7)
def mixZ (a b : Int) : Int := (a / 65536 % 256 + b / 65536 % 256) / 2 * 65536 + (a / 256 % 256 + b / 256 % 256) / 2 * 256 + (a % 256 + b % 256) / 2
def grayZ (c : Int) : Int := (3 * (c / 65536 % 256) + 6 * (c / 256 % 256) + c % 256) / 10
abbrev U32s (x : Int) : Prop := 0 ≤ x ∧ x ≤ 4294967295
theorem mixZ_self {a : Int} (h : 0 ≤ a) : mixZ a a = a % 16777216 := by unfold mixZ; omega
theorem mixZ_in {a b : Int} (ha : 0 ≤ a) (hb : 0 ≤ b) : 0 ≤ mixZ a b ∧ mixZ a b < 16777216 := by unfold mixZ; omega
theorem inkS_in (s : Int) : 0 ≤ inkS s ∧ inkS s ≤ 16777215 := by
  unfold inkS
  split
  · rename_i h
    have := goodS_in h
    have hk : ∀ k : Fin 8, 0 ≤ inkL.getD k.1 0 ∧ inkL.getD k.1 0 ≤ 16777215 := by decide
    exact hk ⟨(s / 3).toNat, by omega⟩
  · omega
end Go.Proofs.YteplnejnhgmfiaaDoor
