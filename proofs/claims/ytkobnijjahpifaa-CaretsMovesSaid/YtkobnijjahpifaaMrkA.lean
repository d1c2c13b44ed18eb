/- mark: the document's own answers by contract: which numbers are places, which edits are good, where a place is behind an edit. -/
import Derived.Test.YtkobnijjahpifaaChecked
import Derived.Test.YtkobnijjahpifaaOwn
namespace Go.Proofs.Ytkobnijjahpifaa
set_option linter.unusedSimpArgs false
set_option linter.unusedVariables false
set_option linter.unusedSectionVars false
open Go.RowKit

def plc (n : Int) : Bool := decide (0 ≤ n) && decide (n ≤ 16777216)
theorem plc_iff {n : Int} : plc n = true ↔ 0 ≤ n ∧ n ≤ 16777216 := by unfold plc; simp
theorem plc_not {n : Int} : plc n = false ↔ n < 0 ∨ 16777216 < n := by unfold plc; simp; omega
theorem plc_in {n : Int} (h : plc n = true) : 0 ≤ n ∧ n ≤ 16777216 := plc_iff.1 h
/-- whether an edit is good of a text of n bytes -/
def goodE (a o i n : Int) : Bool := decide (0 ≤ n ∧ n ≤ 16777216 ∧ 0 ≤ a ∧ a ≤ n ∧ 0 ≤ o ∧ o ≤ n - a ∧ 0 ≤ i ∧ i ≤ 16777216 - (n - o))
theorem goodE_in {a o i n : Int} (h : goodE a o i n = true) : 0 ≤ n ∧ n ≤ 16777216 ∧ 0 ≤ a ∧ a ≤ n ∧ 0 ≤ o ∧ o ≤ n - a ∧ 0 ≤ i ∧ i ≤ 16777216 - (n - o) := of_decide_eq_true h
def plcs (p a o i : Int) : Bool := plc p && plc a && plc o && plc i
theorem plcs_in {p a o i : Int} (h : plcs p a o i = true) : (0 ≤ p ∧ p ≤ 16777216) ∧ (0 ≤ a ∧ a ≤ 16777216) ∧ (0 ≤ o ∧ o ≤ 16777216) ∧ 0 ≤ i ∧ i ≤ 16777216 := by
  unfold plcs at h
  simp only [Bool.and_eq_true, plc_iff] at h
  omega
/-- where a place is behind an edit, if what comes stands ahead of it; behind it -/
def rightZ (p a o i : Int) : Int := if plcs p a o i then (if a + o ≤ p then p - o + i else if a < p then a + i else p) else p
def leftZ (p a o i : Int) : Int := if plcs p a o i then (if p ≤ a then p else if p ≤ a + o then a else p - o + i) else p
theorem rightZ_in {p a o i : Int} (h : -9223372036854775808 ≤ p ∧ p ≤ 9223372036854775807) : -9223372036854775808 ≤ rightZ p a o i ∧ rightZ p a o i ≤ 9223372036854775807 := by
  unfold rightZ
  by_cases h1 : plcs p a o i = true
  · have := plcs_in h1
    rw [if_pos h1]; split <;> (try split) <;> omega
  · rw [if_neg h1]; exact h
theorem leftZ_in {p a o i : Int} (h : -9223372036854775808 ≤ p ∧ p ≤ 9223372036854775807) : -9223372036854775808 ≤ leftZ p a o i ∧ leftZ p a o i ≤ 9223372036854775807 := by
  unfold leftZ
  by_cases h1 : plcs p a o i = true
  · have := plcs_in h1
    rw [if_pos h1]; split <;> (try split) <;> omega
  · rw [if_neg h1]; exact h
theorem mret_i64 {a b : Int} (h : a = b) : Ending.returned (.int .i64 a) = .returned (.int .i64 b) := by rw [h]

theorem xplace_any (n : Int) (w : World) (c : Bool) (hc : plc n = c) : Calls Try.prog 37 #[.int .i64 n] w fun e w' => e = .returned (.bool c) ∧ w = w' := by
  subst hc
  by_cases h1 : 0 ≤ n
  · by_cases h2 : n ≤ 16777216
    · have Q : Hid (true = plc n) := Lib.hid (plc_iff.2 ⟨h1, h2⟩).symm
      go_enter Try.func37, Try.ntmps37
      go_wp2
      go_ret
      exact ⟨ret_bool Q.out, rfl⟩
    · have Q : Hid (false = plc n) := Lib.hid (plc_not.2 (by omega)).symm
      have h3 : decide (n ≤ 16777216) = false := decide_eq_false h2
      go_enter Try.func37, Try.ntmps37
      go_wp2
      go_ret
      exact ⟨ret_bool Q.out, rfl⟩
  · have Q : Hid (false = plc n) := Lib.hid (plc_not.2 (by omega)).symm
    have h3 : decide (0 ≤ n) = false := decide_eq_false h1
    go_enter Try.func37, Try.ntmps37
    go_wp2
    go_ret
    exact ⟨ret_bool Q.out, rfl⟩

theorem xgood_any (a o i n : Int) (w : World) (c : Bool) (hc : goodE a o i n = c) : Calls Try.prog 22 #[.agg #[.int .i64 a, .int .i64 o, .int .i64 i], .int .i64 n] w fun e w' => e = .returned (.bool c) ∧ AnyLater w w' := by
  subst hc
  have F : Hid (¬ (0 ≤ n ∧ n ≤ 16777216 ∧ 0 ≤ a ∧ a ≤ n ∧ 0 ≤ o ∧ o ≤ n - a ∧ 0 ≤ i ∧ i ≤ 16777216 - (n - o)) → false = goodE a o i n) := Lib.hid (fun h => (decide_eq_false h).symm)
  rcases hn : plc n
  · have Q : Hid (false = goodE a o i n) := Lib.hid (F.out (by have := plc_not.1 hn; omega))
    go_enter Try.func22, Try.ntmps22
    go_wp2_with ((go_at_call 37; refine (xplace_any _ _ _ (by assumption)).mono ?_; rintro e w' ⟨rfl, rfl⟩))
    go_ret
    exact ⟨ret_bool Q.out, by repeat' (first | with_reducible assumption | with_reducible exact AnyLater.refl _ | with_reducible apply AnyLater.setCell | with_reducible apply AnyLater.later | with_reducible apply AnyLater.drewN | with_reducible apply AnyLater.drew | with_reducible apply AnyLater.alloc | ((try simp only [World.size_alloc, World.size_setCell, World.size_drew]); (try dsimp only); omega))⟩
  · have hb := plc_in hn
    by_cases h1 : 0 ≤ a
    · by_cases h2 : a ≤ n
      · by_cases h3 : 0 ≤ o
        · by_cases h4 : o ≤ n - a
          · by_cases h5 : 0 ≤ i
            · by_cases h6 : i ≤ 16777216 - n + o
              · have Q : Hid (true = goodE a o i n) := Lib.hid (decide_eq_true (by omega)).symm
                go_enter Try.func22, Try.ntmps22
                go_wp2_with ((go_at_call 37; refine (xplace_any _ _ _ (by assumption)).mono ?_; rintro e w' ⟨rfl, rfl⟩))
                go_ret
                exact ⟨ret_bool Q.out, by repeat' (first | with_reducible assumption | with_reducible exact AnyLater.refl _ | with_reducible apply AnyLater.setCell | with_reducible apply AnyLater.later | with_reducible apply AnyLater.drewN | with_reducible apply AnyLater.drew | with_reducible apply AnyLater.alloc | ((try simp only [World.size_alloc, World.size_setCell, World.size_drew]); (try dsimp only); omega))⟩
              · have Q : Hid (false = goodE a o i n) := Lib.hid (F.out (by omega))
                have d := decide_eq_false h6
                go_enter Try.func22, Try.ntmps22
                go_wp2_with ((go_at_call 37; refine (xplace_any _ _ _ (by assumption)).mono ?_; rintro e w' ⟨rfl, rfl⟩))
                go_ret
                exact ⟨ret_bool Q.out, by repeat' (first | with_reducible assumption | with_reducible exact AnyLater.refl _ | with_reducible apply AnyLater.setCell | with_reducible apply AnyLater.later | with_reducible apply AnyLater.drewN | with_reducible apply AnyLater.drew | with_reducible apply AnyLater.alloc | ((try simp only [World.size_alloc, World.size_setCell, World.size_drew]); (try dsimp only); omega))⟩
            · have Q : Hid (false = goodE a o i n) := Lib.hid (F.out (by omega))
              have d := decide_eq_false h5
              go_enter Try.func22, Try.ntmps22
              go_wp2_with ((go_at_call 37; refine (xplace_any _ _ _ (by assumption)).mono ?_; rintro e w' ⟨rfl, rfl⟩))
              go_ret
              exact ⟨ret_bool Q.out, by repeat' (first | with_reducible assumption | with_reducible exact AnyLater.refl _ | with_reducible apply AnyLater.setCell | with_reducible apply AnyLater.later | with_reducible apply AnyLater.drewN | with_reducible apply AnyLater.drew | with_reducible apply AnyLater.alloc | ((try simp only [World.size_alloc, World.size_setCell, World.size_drew]); (try dsimp only); omega))⟩
          · have Q : Hid (false = goodE a o i n) := Lib.hid (F.out (by omega))
            have d := decide_eq_false h4
            go_enter Try.func22, Try.ntmps22
            go_wp2_with ((go_at_call 37; refine (xplace_any _ _ _ (by assumption)).mono ?_; rintro e w' ⟨rfl, rfl⟩))
            go_ret
            exact ⟨ret_bool Q.out, by repeat' (first | with_reducible assumption | with_reducible exact AnyLater.refl _ | with_reducible apply AnyLater.setCell | with_reducible apply AnyLater.later | with_reducible apply AnyLater.drewN | with_reducible apply AnyLater.drew | with_reducible apply AnyLater.alloc | ((try simp only [World.size_alloc, World.size_setCell, World.size_drew]); (try dsimp only); omega))⟩
        · have Q : Hid (false = goodE a o i n) := Lib.hid (F.out (by omega))
          have d := decide_eq_false h3
          go_enter Try.func22, Try.ntmps22
          go_wp2_with ((go_at_call 37; refine (xplace_any _ _ _ (by assumption)).mono ?_; rintro e w' ⟨rfl, rfl⟩))
          go_ret
          exact ⟨ret_bool Q.out, by repeat' (first | with_reducible assumption | with_reducible exact AnyLater.refl _ | with_reducible apply AnyLater.setCell | with_reducible apply AnyLater.later | with_reducible apply AnyLater.drewN | with_reducible apply AnyLater.drew | with_reducible apply AnyLater.alloc | ((try simp only [World.size_alloc, World.size_setCell, World.size_drew]); (try dsimp only); omega))⟩
      · have Q : Hid (false = goodE a o i n) := Lib.hid (F.out (by omega))
        have d := decide_eq_false h2
        go_enter Try.func22, Try.ntmps22
        go_wp2_with ((go_at_call 37; refine (xplace_any _ _ _ (by assumption)).mono ?_; rintro e w' ⟨rfl, rfl⟩))
        go_ret
        exact ⟨ret_bool Q.out, by repeat' (first | with_reducible assumption | with_reducible exact AnyLater.refl _ | with_reducible apply AnyLater.setCell | with_reducible apply AnyLater.later | with_reducible apply AnyLater.drewN | with_reducible apply AnyLater.drew | with_reducible apply AnyLater.alloc | ((try simp only [World.size_alloc, World.size_setCell, World.size_drew]); (try dsimp only); omega))⟩
    · have Q : Hid (false = goodE a o i n) := Lib.hid (F.out (by omega))
      have d := decide_eq_false h1
      go_enter Try.func22, Try.ntmps22
      go_wp2_with ((go_at_call 37; refine (xplace_any _ _ _ (by assumption)).mono ?_; rintro e w' ⟨rfl, rfl⟩))
      go_ret
      exact ⟨ret_bool Q.out, by repeat' (first | with_reducible assumption | with_reducible exact AnyLater.refl _ | with_reducible apply AnyLater.setCell | with_reducible apply AnyLater.later | with_reducible apply AnyLater.drewN | with_reducible apply AnyLater.drew | with_reducible apply AnyLater.alloc | ((try simp only [World.size_alloc, World.size_setCell, World.size_drew]); (try dsimp only); omega))⟩

theorem xright_any (p a o i : Int) (w : World) (c : Int) (hc : rightZ p a o i = c) : Calls Try.prog 36 #[.int .i64 p, .agg #[.int .i64 a, .int .i64 o, .int .i64 i]] w fun e w' => e = .returned (.int .i64 c) ∧ AnyLater w w' := by
  subst hc
  have F : Hid (plcs p a o i = false → p = rightZ p a o i) := Lib.hid (fun h => by unfold rightZ; rw [h]; rfl)
  rcases h1 : plc p
  · have Q : Hid (p = rightZ p a o i) := Lib.hid (F.out (by unfold plcs; simp [h1]))
    go_enter Try.func36, Try.ntmps36
    go_wp2_with ((go_at_call 37; refine (xplace_any _ _ _ (by assumption)).mono ?_; rintro e w' ⟨rfl, rfl⟩))
    go_ret
    exact ⟨mret_i64 Q.out, by repeat' (first | with_reducible assumption | with_reducible exact AnyLater.refl _ | with_reducible apply AnyLater.setCell | with_reducible apply AnyLater.later | with_reducible apply AnyLater.drewN | with_reducible apply AnyLater.drew | with_reducible apply AnyLater.alloc | ((try simp only [World.size_alloc, World.size_setCell, World.size_drew]); (try dsimp only); omega))⟩
  · rcases h2 : plc a
    · have Q : Hid (p = rightZ p a o i) := Lib.hid (F.out (by unfold plcs; simp [h2]))
      go_enter Try.func36, Try.ntmps36
      go_wp2_with ((go_at_call 37; refine (xplace_any _ _ _ (by assumption)).mono ?_; rintro e w' ⟨rfl, rfl⟩))
      go_ret
      exact ⟨mret_i64 Q.out, by repeat' (first | with_reducible assumption | with_reducible exact AnyLater.refl _ | with_reducible apply AnyLater.setCell | with_reducible apply AnyLater.later | with_reducible apply AnyLater.drewN | with_reducible apply AnyLater.drew | with_reducible apply AnyLater.alloc | ((try simp only [World.size_alloc, World.size_setCell, World.size_drew]); (try dsimp only); omega))⟩
    · rcases h3 : plc o
      · have Q : Hid (p = rightZ p a o i) := Lib.hid (F.out (by unfold plcs; simp [h3]))
        go_enter Try.func36, Try.ntmps36
        go_wp2_with ((go_at_call 37; refine (xplace_any _ _ _ (by assumption)).mono ?_; rintro e w' ⟨rfl, rfl⟩))
        go_ret
        exact ⟨mret_i64 Q.out, by repeat' (first | with_reducible assumption | with_reducible exact AnyLater.refl _ | with_reducible apply AnyLater.setCell | with_reducible apply AnyLater.later | with_reducible apply AnyLater.drewN | with_reducible apply AnyLater.drew | with_reducible apply AnyLater.alloc | ((try simp only [World.size_alloc, World.size_setCell, World.size_drew]); (try dsimp only); omega))⟩
      · rcases h4 : plc i
        · have Q : Hid (p = rightZ p a o i) := Lib.hid (F.out (by unfold plcs; simp [h4]))
          go_enter Try.func36, Try.ntmps36
          go_wp2_with ((go_at_call 37; refine (xplace_any _ _ _ (by assumption)).mono ?_; rintro e w' ⟨rfl, rfl⟩))
          go_ret
          exact ⟨mret_i64 Q.out, by repeat' (first | with_reducible assumption | with_reducible exact AnyLater.refl _ | with_reducible apply AnyLater.setCell | with_reducible apply AnyLater.later | with_reducible apply AnyLater.drewN | with_reducible apply AnyLater.drew | with_reducible apply AnyLater.alloc | ((try simp only [World.size_alloc, World.size_setCell, World.size_drew]); (try dsimp only); omega))⟩
        · have b1 := plc_in h1
          have b2 := plc_in h2
          have b3 := plc_in h3
          have b4 := plc_in h4
          have T : plcs p a o i = true := by unfold plcs; simp [h1, h2, h3, h4]
          by_cases h5 : a + o ≤ p
          · have Q : Hid (p - o + i = rightZ p a o i) := Lib.hid (by unfold rightZ; rw [if_pos T, if_pos h5])
            clear T
            go_enter Try.func36, Try.ntmps36
            go_wp2_with ((go_at_call 37; refine (xplace_any _ _ _ (by assumption)).mono ?_; rintro e w' ⟨rfl, rfl⟩))
            go_ret
            exact ⟨mret_i64 Q.out, by repeat' (first | with_reducible assumption | with_reducible exact AnyLater.refl _ | with_reducible apply AnyLater.setCell | with_reducible apply AnyLater.later | with_reducible apply AnyLater.drewN | with_reducible apply AnyLater.drew | with_reducible apply AnyLater.alloc | ((try simp only [World.size_alloc, World.size_setCell, World.size_drew]); (try dsimp only); omega))⟩
          · by_cases h6 : a < p
            · have Q : Hid (a + i = rightZ p a o i) := Lib.hid (by unfold rightZ; rw [if_pos T, if_neg h5, if_pos h6])
              clear T
              go_enter Try.func36, Try.ntmps36
              go_wp2_with ((go_at_call 37; refine (xplace_any _ _ _ (by assumption)).mono ?_; rintro e w' ⟨rfl, rfl⟩))
              go_ret
              exact ⟨mret_i64 Q.out, by repeat' (first | with_reducible assumption | with_reducible exact AnyLater.refl _ | with_reducible apply AnyLater.setCell | with_reducible apply AnyLater.later | with_reducible apply AnyLater.drewN | with_reducible apply AnyLater.drew | with_reducible apply AnyLater.alloc | ((try simp only [World.size_alloc, World.size_setCell, World.size_drew]); (try dsimp only); omega))⟩
            · have Q : Hid (p = rightZ p a o i) := Lib.hid (by unfold rightZ; rw [if_pos T, if_neg h5, if_neg h6])
              clear T
              go_enter Try.func36, Try.ntmps36
              go_wp2_with ((go_at_call 37; refine (xplace_any _ _ _ (by assumption)).mono ?_; rintro e w' ⟨rfl, rfl⟩))
              go_ret
              exact ⟨mret_i64 Q.out, by repeat' (first | with_reducible assumption | with_reducible exact AnyLater.refl _ | with_reducible apply AnyLater.setCell | with_reducible apply AnyLater.later | with_reducible apply AnyLater.drewN | with_reducible apply AnyLater.drew | with_reducible apply AnyLater.alloc | ((try simp only [World.size_alloc, World.size_setCell, World.size_drew]); (try dsimp only); omega))⟩

end Go.Proofs.Ytkobnijjahpifaa
