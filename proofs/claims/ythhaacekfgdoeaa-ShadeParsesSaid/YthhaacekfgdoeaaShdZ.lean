/- shade: how a text that is an argument is opened. -/
import Derived.Test.YthhaacekfgdoeaaShdN
import Derived.Test.YthhaacekfgdoeaaLaw
import Derived.ChangeMaps5
namespace Go.Proofs.Ythhaacekfgdoeaa
set_option linter.unusedSimpArgs false
set_option linter.unusedVariables false
set_option linter.unusedSectionVars false
open Go.ChangeShapes Go.WideShapes Go.ChangeAt Go.RowKit Go.ChangeMaps

/-- a text -/
theorem open_str {H : Type} {enc : TypeId × Value → H} {P : Program} {w : World} {base b0 : Nat} {sp : Nat → Bool} {held : Bool} {r : Reach} {t : TypeId} {v : Value} {d : DataW H} {p : List MemPlace}
    (ht : P.underlying t = some .string) (hv : Value.okWide P w r b0 t v) (h : DataW.Trod enc P w base sp held t v d p) : ∃ l : List UInt8, v = .string (mkS l) ∧ (l.length : Int) ≤ 9223372036854775807 := by
  obtain ⟨s, rfl, _, _, hs⟩ := open_string ht hv h
  refine ⟨s.data.toList, ?_, ?_⟩
  · have : mkS s.data.toList = s := by apply ByteArray.ext; exact Array.toArray_toList ..
    rw [this]
  · have : s.data.toList.length = s.size := rfl
    rw [this]
    unfold maxLen at hs
    omega
end Go.Proofs.Ythhaacekfgdoeaa
