/- utf: how many runes there are, whether all are valid, and the places around any place: the program's functions by contract. -/
import Derived.Test.YtkobnijjahpifaaDoorUtfI
namespace Go.Proofs.YtkobnijjahpifaaDoor
set_option linter.unusedSimpArgs false
set_option linter.unusedVariables false
set_option linter.unusedSectionVars false
open Go.RowKit

/-- no rune is one that is none -/
def valU (l : List Int) (c : Nat) : Bool := (List.range c).all fun j => !badU (l.drop (it l j))
theorem valU_yes {l : List Int} {c : Nat} (h : ∀ j, j < c → badU (l.drop (it l j)) = false) : valU l c = true := by
  unfold valU
  rw [List.all_eq_true]
  intro j hj
  rw [h j (List.mem_range.1 hj)]
  rfl
theorem valU_no {l : List Int} {c j : Nat} (hj : j < c) (h : badU (l.drop (it l j)) = true) : valU l c = false := by
  unfold valU
  rw [List.all_eq_false]
  exact ⟨j, List.mem_range.2 hj, by rw [h]; decide⟩
theorem valU_all {l : List Int} {c : Nat} (h : valU l c = true) : ∀ j, j < c → badU (l.drop (it l j)) = false := by
  intro j hj
  unfold valU at h
  have := List.all_eq_true.1 h j (List.mem_range.2 hj)
  simpa using this
end Go.Proofs.YtkobnijjahpifaaDoor
