/- seq: SeqNone, walked. -/
import Derived.Test.YtjoadlfkdkeomaaSeqR
import Derived.Test.YtjoadlfkdkeomaaFree
import Derived.Test.YtjoadlfkdkeomaaClc
import Derived.Test.YtjoadlfkdkeomaaStor
import Derived.Lib.AppendZeros
import Derived.LoopN
import Derived.Deep.LoopGhost
import Derived.BigRegion
import Derived.RegionTactic
import Derived.Shelf.Abstract
import Derived.ChangeKeysEq
import Derived.Deep.DeepCutAuto
import Derived.Deep.CutBlock
namespace Go.Proofs.Ytjoadlfkdkeomaa
set_option linter.unusedSimpArgs false
set_option linter.unusedVariables false
set_option linter.unusedSectionVars false
open Go.RowKit


/-! ### a height is found -/
theorem QR.lit {t : TypeId} {w : World} {g : Nat} {cs : Array Value} (l : Qs) (h : w.heap[g]? = some (.cells cs t)) (e : cs.toList = flatQ l) : QR w (.slice (some ⟨g, 0, none⟩) l.length l.length) l := by
  refine ⟨_, _, rfl, Nat.le_refl _, fun h0 => ⟨g, 0, rfl, own_lt h, fun j hj => ?_⟩⟩
  have q : ∀ k, cs[k]? = (flatQ l)[k]? := fun k => by rw [← Array.getElem?_toList, e]
  rw [Nat.zero_add, own_row h, own_row h, q, q, flatQ_0, flatQ_1, List.getElem?_eq_getElem hj]
  exact ⟨rfl, rfl⟩
/-- == of two heights -/
theorem fields_tall : Try.prog.underlying 33 = some (.struct (Try.prog.fieldsOf 33)) := by kernel_rfl
theorem stood_tall : Try.prog.stoodInHeld 33 = false := by kernel_rfl
theorem guard_tall : Try.prog.eqGuardType Try.prog.depth 33 = false := by kernel_rfl
set_option maxRecDepth 100000 in
theorem eqTall (a b c d : Int) (w : World) : (Op.equalIn 10000 33 (.agg #[.int .i64 a, .int .i64 b]) (.agg #[.int .i64 c, .int .i64 d])).run Try.prog w = .ok (a == c && b == d) w := by
  rw [run_equalIn_agg w 9999 _ _ _ fields_tall stood_tall]
  by_cases h1 : a = c
  · by_cases h2 : b = d
    · simp [go_sem, h1, h2]
    · simp [go_sem, h1, h2]
  · simp [go_sem, h1]
theorem eqlTall (a b : Int) (w : World) : (binOp .eql 33 (.agg #[.int .i64 a, .int .i64 b]) (.agg #[.int .i64 a, .int .i64 b])).run Try.prog w = .ok (.bool true) w := by
  rw [run_eql_struct, eqTall]; simp [Result.andThen]
theorem neqTall (a b : Int) (w : World) : (binOp .neq 33 (.agg #[.int .i64 a, .int .i64 b]) (.agg #[.int .i64 a, .int .i64 b])).run Try.prog w = .ok (.bool false) w := by
  rw [run_neq_struct, eqTall]; simp [Result.andThen]

/-! ### what is told of no Seq -/
theorem no_seq (w : World) : IsQN w (.pointer none) .nil := .inl ⟨rfl, rfl⟩
end Go.Proofs.Ytjoadlfkdkeomaa
