/- rect: a trial -/
import Derived.Test.YtddmhonhajfehaaRectA
import Derived.BigGuardPart
namespace Go.Proofs.Ytddmhonhajfehaa
set_option linter.unusedSimpArgs false
set_option linter.unusedVariables false
set_option linter.unusedSectionVars false
open Go.RowKit

set_option maxHeartbeats 1000000 in
theorem refGood_any (x y a b : Int) (w : World) (c : Bool) (hc : goodB x y a b = c) (hx : I64 x) (hy : I64 y) (ha : I64 a) (hb : I64 b) :
    Calls Try.prog 9 #[.agg #[.int .i64 x, .int .i64 y, .int .i64 a, .int .i64 b]] w fun e w' => e = .returned (.bool c) ∧ AnyLater w w' := by
  have HL := Lib.hid ((AnyLater.refl w).alloc (.cells #[.int .i64 x, .int .i64 y, .int .i64 a, .int .i64 b] 23))
  have H := Lib.hid hc
  clear hc
  go_enter Try.func9, Try.ntmps9
  go_wp2
  all_goals
    go_ret
    exact ⟨ret_bool (by rw [← H.out]; unfold goodB sideB; first | (simp; done) | (simp; omega) | (rw [Bool.eq_iff_iff]; simp; omega)), HL.out⟩
def loZ (p q : Int) : Int := if p < q then p else q
def hiZ (p q : Int) : Int := if q < p then p else q
theorem loZ_in (p q : Int) : loZ p q ≤ p ∧ loZ p q ≤ q ∧ (p ≤ loZ p q ∨ q ≤ loZ p q) := by unfold loZ; split <;> omega
theorem hiZ_in (p q : Int) : p ≤ hiZ p q ∧ q ≤ hiZ p q ∧ (hiZ p q ≤ p ∨ hiZ p q ≤ q) := by unfold hiZ; split <;> omega
theorem low_any (p q v : Int) (w : World) (hv : loZ p q = v) : Calls Try.prog 23 #[.int .i64 p, .int .i64 q] w fun e w' => e = .returned (.int .i64 v) ∧ w = w' := by
  subst hv
  go_enter Try.func23, Try.ntmps23
  go_wp2
  all_goals
    go_ret
    exact ⟨ret_int (by first | rfl | (unfold loZ; split <;> omega) | (unfold hiZ; split <;> omega)), rfl⟩
theorem high_any (p q v : Int) (w : World) (hv : hiZ p q = v) : Calls Try.prog 22 #[.int .i64 p, .int .i64 q] w fun e w' => e = .returned (.int .i64 v) ∧ w = w' := by
  subst hv
  go_enter Try.func22, Try.ntmps22
  go_wp2
  all_goals
    go_ret
    exact ⟨ret_int (by first | rfl | (unfold loZ; split <;> omega) | (unfold hiZ; split <;> omega)), rfl⟩

def anyB (x y a b : Int) : Bool := goodB x y a b && decide (0 < a) && decide (0 < b)
set_option maxHeartbeats 1000000 in
theorem any_any (x y a b : Int) (w : World) (c : Bool) (hc : anyB x y a b = c) (hx : I64 x) (hy : I64 y) (ha : I64 a) (hb : I64 b) :
    Calls Try.prog 7 #[.agg #[.int .i64 x, .int .i64 y, .int .i64 a, .int .i64 b]] w fun e w' => e = .returned (.bool c) ∧ AnyLater w w' := by
  have HL := Lib.hid ((AnyLater.refl w).alloc (.cells #[.int .i64 x, .int .i64 y, .int .i64 a, .int .i64 b] 23))
  have H := Lib.hid hc
  clear hc
  rcases hg : goodB x y a b
  all_goals
    go_enter Try.func7, Try.ntmps7
    go_wp2_with (go_at_call 9; refine (refGood_any _ _ _ _ _ _ (by assumption) (by assumption) (by assumption) (by assumption) (by assumption)).mono ?_; rintro e w' ⟨rfl, u, rfl⟩; have hu := later_cell u)
    all_goals
      go_ret
      exact ⟨ret_bool (by rw [← H.out]; unfold anyB; first | (simp [hg]; done) | (simp [hg]; omega) | (rw [Bool.eq_iff_iff]; simp [hg]; omega)), HL.out.later u⟩
end Go.Proofs.Ytddmhonhajfehaa
