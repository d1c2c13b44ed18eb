/- seq: whether all that is noted is right; a height that is set: by contract. Trees of up to 90000 heights. -/
import Derived.Test.YtjoadlfkdkeomaaSeqI
import Derived.Test.YtjoadlfkdkeomaaFree
import Derived.LoopN
import Derived.Deep.LoopGhost
import Derived.BigRegion
import Derived.RegionTactic
import Derived.Shelf.Abstract
import Derived.ChangeKeysEq
namespace Go.Proofs.Ytjoadlfkdkeomaa
set_option linter.unusedSimpArgs false
set_option linter.unusedVariables false
set_option linter.unusedSectionVars false
open Go.RowKit
variable {B : Nat}

theorem stood_notes : Try.prog.stoodInHeld 117 = false := by kernel_rfl
theorem fields_notes : Try.prog.underlying 117 = some (.struct (Try.prog.fieldsOf 117)) := by kernel_rfl
theorem guard_notes : Try.prog.eqGuardType Try.prog.depth 117 = false := by kernel_rfl
theorem cells_one : Try.prog.cellsOf 3 = 1 := by kernel_rfl
set_option maxRecDepth 100000 in
theorem eq_counts (d : Nat) (a b c : Int) (w : World) : (Op.equalIn (d + 2) 96 (.agg #[.int .i64 a, .int .i64 b, .int .i64 c]) (.agg #[.int .i64 a, .int .i64 b, .int .i64 c])).run Try.prog w = .ok true w := by
  have hs : (Try.prog.info? 3).isSome = true := by kernel_rfl
  obtain ⟨i, hi⟩ := Option.isSome_iff_exists.1 hs
  rw [run_equalIn_array w (d + 1) _ _ Try.underlying96 hi, cells_one, show List.range 3 = [0, 1, 2] from rfl]
  simp [go_sem, Op.eqItems]
set_option maxRecDepth 100000 in
theorem eql_notes (a b c d : Int) (w : World) : (binOp .eql 117 (.agg #[.int .i64 a, .int .i64 b, .int .i64 c, .int .i64 d]) (.agg #[.int .i64 a, .int .i64 b, .int .i64 c, .int .i64 d])).run Try.prog w = .ok (.bool true) w := by
  rw [run_eql_struct, run_equalIn_agg w 9999 _ _ _ fields_notes stood_notes]
  have h := eq_counts 9997 a b c w
  simp [go_sem, h]
end Go.Proofs.Ytjoadlfkdkeomaa
