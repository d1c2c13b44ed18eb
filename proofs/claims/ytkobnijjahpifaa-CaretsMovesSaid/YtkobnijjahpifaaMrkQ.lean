/- mark, the program: Span and All by contract. -/
import Derived.Test.YtkobnijjahpifaaMrkP
import Derived.Test.YtkobnijjahpifaaPairs
import Derived.Test.YtkobnijjahpifaaFree
import Derived.Deep.LoopGhost
import Derived.LoopN
import Derived.Lib.AppendZeros
namespace Go.Proofs.Ytkobnijjahpifaa
set_option linter.unusedSimpArgs false
set_option linter.unusedVariables false
set_option linter.unusedSectionVars false
open Go.RowKit

/-- what is left of a span behind an edit -/
def spanZ (a o i : Int) (s : Int × Int) : Option (Int × Int) := if rightZ s.1 a o i < leftZ s.2 a o i then some (rightZ s.1 a o i, leftZ s.2 a o i) else none
/-- Span as a value -/
def spanV : Option (Int × Int) → Value
  | some s => .tuple #[.agg #[.int .i64 s.1, .int .i64 s.2], .bool true]
  | none => .tuple #[.agg #[.int .i64 0, .int .i64 0], .bool false]
/-! ### All -/
def spansZ (a o i : Int) (l : Qs) : Qs := l.filterMap (spanZ a o i)
theorem spansZ_take {a o i : Int} {l : Qs} {j : Nat} (h : j < l.length) : spansZ a o i (l.take (j + 1)) = spansZ a o i (l.take j) ++ (spanZ a o i l[j]).toList := by
  unfold spansZ
  rw [List.take_succ_eq_append_getElem h, List.filterMap_append]
  cases hs : spanZ a o i l[j] <;> simp [hs]
theorem spansZ_le (a o i : Int) (l : Qs) : (spansZ a o i l).length ≤ l.length := List.length_filterMap_le _ _
theorem spansZ_take_le (a o i : Int) (l : Qs) (j : Nat) : (spansZ a o i (l.take j)).length ≤ j := Nat.le_trans (spansZ_le a o i _) (by rw [List.length_take]; omega)
theorem spanZ_some {a o i f t x y : Int} (h : spanZ a o i (f, t) = some (x, y)) : rightZ f a o i = x ∧ leftZ t a o i = y ∧ x < y := by
  unfold spanZ at h
  split at h
  · cases h; exact ⟨rfl, rfl, by assumption⟩
  · cases h
theorem spanZ_none {a o i f t : Int} (h : spanZ a o i (f, t) = none) : ¬ rightZ f a o i < leftZ t a o i := by
  unfold spanZ at h
  split at h
  · cases h
  · assumption
/-- a row of spans of the call's own -/
def RowS (W : World) (l : Qs) (e : Ending) (w' : World) : Prop := ∃ v, e = .returned v ∧ AnyLater W w' ∧ OQ 37 w' W.heap.size v l
set_option maxRecDepth 100000 in
theorem pairSpan : PairT 37 34 := ⟨Try.underlying34, by kernel_rfl, by kernel_rfl, fun w => by simp [go_sem]⟩
theorem qbox {w w1 : World} {x y : Value} {t : TypeId} (h : AnyLater (w.alloc (.cells #[x, y] t)) w1) : w1.cell? ⟨w.heap.size, 0, none⟩ = some x ∧ w1.cell? ⟨w.heap.size, 1, none⟩ = some y := by
  have h3 : (w.alloc (.cells #[x, y] t)).heap[w.heap.size]? = some (.cells #[x, y] t) := heap_new rfl
  exact ⟨(h.below.cell (own_lt h3)).trans (by rw [own_row h3]; rfl), (h.below.cell (own_lt h3)).trans (by rw [own_row h3]; rfl)⟩
end Go.Proofs.Ytkobnijjahpifaa
