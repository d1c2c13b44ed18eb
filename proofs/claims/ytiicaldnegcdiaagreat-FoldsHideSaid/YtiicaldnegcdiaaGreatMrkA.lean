/- mark: the document's own answers by contract: which numbers are places, which edits are good, where a place is behind an edit. -/
import Derived.Test.YtiicaldnegcdiaaGreatChecked
import Derived.Test.YtiicaldnegcdiaaGreatOwn
namespace Go.Proofs.YtiicaldnegcdiaaGreat
set_option linter.unusedSimpArgs false
set_option linter.unusedVariables false
set_option linter.unusedSectionVars false
open Go.RowKit

def plc (n : Int) : Bool := decide (0 ≤ n) && decide (n ≤ 16777216)
theorem plc_iff {n : Int} : plc n = true ↔ 0 ≤ n ∧ n ≤ 16777216 := by unfold plc; simp
theorem plc_not {n : Int} : plc n = false ↔ n < 0 ∨ 16777216 < n := by unfold plc; simp; omega
theorem plc_in {n : Int} (h : plc n = true) : 0 ≤ n ∧ n ≤ 16777216 := plc_iff.1 h
/-- whether an edit is good of a text of n bytes -/
def goodE (a o i n : Int) : Bool := decide (0 ≤ n ∧ n ≤ 16777216 ∧ 0 ≤ a ∧ a ≤ n ∧ 0 ≤ o ∧ o ≤ n - a ∧ 0 ≤ i ∧ i ≤ 16777216 - (n - o))
theorem goodE_in {a o i n : Int} (h : goodE a o i n = true) : 0 ≤ n ∧ n ≤ 16777216 ∧ 0 ≤ a ∧ a ≤ n ∧ 0 ≤ o ∧ o ≤ n - a ∧ 0 ≤ i ∧ i ≤ 16777216 - (n - o) := of_decide_eq_true h
def plcs (p a o i : Int) : Bool := plc p && plc a && plc o && plc i
theorem plcs_in {p a o i : Int} (h : plcs p a o i = true) : (0 ≤ p ∧ p ≤ 16777216) ∧ (0 ≤ a ∧ a ≤ 16777216) ∧ (0 ≤ o ∧ o ≤ 16777216) ∧ 0 ≤ i ∧ i ≤ 16777216 := by
  unfold plcs at h
  simp only [Bool.and_eq_true, plc_iff] at h
  omega
/-- where a place is behind an edit, if what comes stands ahead of it; behind it -/
def rightZ (p a o i : Int) : Int := if plcs p a o i then (if a + o ≤ p then p - o + i else if a < p then a + i else p) else p
def leftZ (p a o i : Int) : Int := if plcs p a o i then (if p ≤ a then p else if p ≤ a + o then a else p - o + i) else p
theorem rightZ_in {p a o i : Int} (h : -9223372036854775808 ≤ p ∧ p ≤ 9223372036854775807) : -9223372036854775808 ≤ rightZ p a o i ∧ rightZ p a o i ≤ 9223372036854775807 := by
  unfold rightZ
  by_cases h1 : plcs p a o i = true
  · have := plcs_in h1
    rw [if_pos h1]; split <;> (try split) <;> omega
  · rw [if_neg h1]; exact h
theorem leftZ_in {p a o i : Int} (h : -9223372036854775808 ≤ p ∧ p ≤ 9223372036854775807) : -9223372036854775808 ≤ leftZ p a o i ∧ leftZ p a o i ≤ 9223372036854775807 := by
  unfold leftZ
  by_cases h1 : plcs p a o i = true
  · have := plcs_in h1
    rw [if_pos h1]; split <;> (try split) <;> omega
  · rw [if_neg h1]; exact h
theorem mret_i64 {a b : Int} (h : a = b) : Ending.returned (.int .i64 a) = .returned (.int .i64 b) := by rw [h]

end Go.Proofs.YtiicaldnegcdiaaGreat
