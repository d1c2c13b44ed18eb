/- mark, the program: upTo, Good, Len, Back, moves, Right, Left, Span, each by contract. -/
import Derived.Test.YtiicaldnegcdiaaGreatMrkA
namespace Go.Proofs.YtiicaldnegcdiaaGreat
set_option linter.unusedSimpArgs false
set_option linter.unusedVariables false
set_option linter.unusedSectionVars false
open Go.RowKit

def upT (n h : Int) : Bool := decide (0 ≤ n) && decide (n ≤ h)
theorem upT_iff {n h : Int} : upT n h = true ↔ 0 ≤ n ∧ n ≤ h := by unfold upT; simp
theorem upT_not {n h : Int} : upT n h = false ↔ ¬ (0 ≤ n ∧ n ≤ h) := by rw [← upT_iff]; simp
theorem plc_up (n : Int) : upT n 16777216 = plc n := rfl
/-- the cells of an edit that a call boxed -/
theorem box_three {w w1 : World} {x y z : Value} {t : TypeId} (h : AnyLater (w.alloc (.cells #[x, y, z] t)) w1) : w1.cell? ⟨w.heap.size, 0, none⟩ = some x ∧ w1.cell? ⟨w.heap.size, 1, none⟩ = some y ∧ w1.cell? ⟨w.heap.size, 2, none⟩ = some z := by
  have h3 : (w.alloc (.cells #[x, y, z] t)).heap[w.heap.size]? = some (.cells #[x, y, z] t) := heap_new rfl
  exact ⟨(h.below.cell (own_lt h3)).trans (by rw [own_row h3]; rfl), (h.below.cell (own_lt h3)).trans (by rw [own_row h3]; rfl), (h.below.cell (own_lt h3)).trans (by rw [own_row h3]; rfl)⟩
end Go.Proofs.YtiicaldnegcdiaaGreat
