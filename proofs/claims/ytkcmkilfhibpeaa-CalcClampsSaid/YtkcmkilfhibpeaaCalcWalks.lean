/- The laws of layer 1, walked over the contracts of calc and of its twin: each answers true for all numbers, and leaves the world alone. No further condition. -/
import Derived.Test.YtkcmkilfhibpeaaCalc
import Derived.DataShut
namespace Go.Proofs.Ytkcmkilfhibpeaa
open Go.RowKit

theorem bnd {a : Int} (h : (Lit.int .i64 a).wf = true) : -9223372036854775808 ≤ a ∧ a ≤ 9223372036854775807 := (Lit.wf_int_iff .i64 a).1 h

theorem lives01 (w : World) : Calls Try.prog 9 #[] w fun e w' => e = .returned (.bool true) ∧ w = w' := by
  have c1 : (clampZ 9 1 5 == 5) = true := by decide
  have f1 : (floorZ (-7) 2 == -4) = true := by decide
  have d1 : (digitsZ 10 == 2) = true := by unfold digitsZ; rw [show (10 : Int).natAbs / 10 = 1 from rfl, dl_step (by decide), show 1 / 10 = 0 from rfl, dl_zero]; rfl
  go_enter Try.func9, Try.ntmps9
  go_wp2_with (first | (go_at_call 7; refine (calc_clamp _ _ _ _).mono ?_; rintro e w' ⟨rfl, rfl⟩) | (go_at_call 10; refine (calc_floor _ _ _ (by omega) (by omega)).mono ?_; rintro e w' ⟨rfl, rfl⟩) | (go_at_call 17; refine (calc_digits _ _ (by omega) (by omega)).mono ?_; rintro e w' ⟨rfl, rfl⟩))
  go_ret
  exact ⟨rfl, rfl⟩

theorem calcClamps_walk (n low high : Int) (w : World) :
    Calls Try.prog 3 #[.int .i64 n, .int .i64 low, .int .i64 high] w fun e w' => e = .returned (.bool true) ∧ w = w' := by
  by_cases h : high < low
  · go_enter Try.func3, Try.ntmps3
    go_wp2_with (first | (go_at_call 7; refine (calc_clamp _ _ _ _).mono ?_; rintro e w' ⟨rfl, rfl⟩) | (go_at_call 8; refine (ref_clamp _ _ _ _).mono ?_; rintro e w' ⟨rfl, rfl⟩) | (go_at_call 9; refine (lives01 _).mono ?_; rintro e w' ⟨rfl, rfl⟩))
    go_ret
    exact ⟨rfl, rfl⟩
  · have h1 : low ≤ clampZ n low high := by unfold clampZ; split; omega; split <;> omega
    have h2 : clampZ n low high ≤ high := by unfold clampZ; split; omega; split <;> omega
    go_enter Try.func3, Try.ntmps3
    go_wp2_with (first | (go_at_call 7; refine (calc_clamp _ _ _ _).mono ?_; rintro e w' ⟨rfl, rfl⟩) | (go_at_call 8; refine (ref_clamp _ _ _ _).mono ?_; rintro e w' ⟨rfl, rfl⟩) | (go_at_call 9; refine (lives01 _).mono ?_; rintro e w' ⟨rfl, rfl⟩))
    go_ret
    exact ⟨rfl, rfl⟩

theorem parts_sum {n d : Int} (hn : -9223372036854775808 ≤ n ∧ n ≤ 9223372036854775807) (h : 0 < d) : wrap64 (wrap64 (d * floorZ n d) + modZ n d) = n := by
  have e : d * (n / d) + n % d = n := Int.mul_ediv_add_emod n d
  unfold floorZ modZ
  rw [if_neg (by omega), if_neg (by omega)]
  generalize d * (n / d) = x at *
  generalize n % d = y at *
  unfold wrap64
  omega

theorem calcParts_walk (n d : Int) (hn : -9223372036854775808 ≤ n ∧ n ≤ 9223372036854775807) (hd : -9223372036854775808 ≤ d ∧ d ≤ 9223372036854775807) (w : World) :
    Calls Try.prog 4 #[.int .i64 n, .int .i64 d] w fun e w' => e = .returned (.bool true) ∧ w = w' := by
  by_cases h : d ≤ 0
  · have f0 : (floorZ n d == 0) = true := by unfold floorZ; rw [if_pos h]; rfl
    have m0 : (modZ n d == 0) = true := by unfold modZ; rw [if_pos h]; rfl
    go_enter Try.func4, Try.ntmps4
    go_wp2_with (first | (go_at_call 10; refine (calc_floor _ _ _ (by omega) (by omega)).mono ?_; rintro e w' ⟨rfl, rfl⟩) | (go_at_call 11; refine (calc_mod _ _ _ (by omega) (by omega)).mono ?_; rintro e w' ⟨rfl, rfl⟩) | (go_at_call 12; refine (ref_floor _ _ _ (by omega) (by omega)).mono ?_; rintro e w' ⟨rfl, rfl⟩) | (go_at_call 13; refine (ref_mod _ _ _ (by omega) (by omega)).mono ?_; rintro e w' ⟨rfl, rfl⟩) | (go_at_call 9; refine (lives01 _).mono ?_; rintro e w' ⟨rfl, rfl⟩))
    go_ret
    exact ⟨rfl, rfl⟩
  · obtain ⟨m1, m2⟩ := modZ_in (n := n) (d := d) (by omega)
    have hs : (wrap64 (wrap64 (d * floorZ n d) + modZ n d) == n) = true := by rw [parts_sum hn (by omega)]; simp
    go_enter Try.func4, Try.ntmps4
    go_wp2_with (first | (go_at_call 10; refine (calc_floor _ _ _ (by omega) (by omega)).mono ?_; rintro e w' ⟨rfl, rfl⟩) | (go_at_call 11; refine (calc_mod _ _ _ (by omega) (by omega)).mono ?_; rintro e w' ⟨rfl, rfl⟩) | (go_at_call 12; refine (ref_floor _ _ _ (by omega) (by omega)).mono ?_; rintro e w' ⟨rfl, rfl⟩) | (go_at_call 13; refine (ref_mod _ _ _ (by omega) (by omega)).mono ?_; rintro e w' ⟨rfl, rfl⟩) | (go_at_call 9; refine (lives01 _).mono ?_; rintro e w' ⟨rfl, rfl⟩))
    go_ret
    exact ⟨rfl, rfl⟩

theorem nextZ_mod {n s : Int} (h : nextZ n s ≠ n) : 0 < s ∧ n < nextZ n s ∧ nextZ n s ≤ 9223372036854775807 ∧ nextZ n s - n ≤ s ∧ nextZ n s % s = 0 := by
  by_cases h1 : s ≤ 0
  · exact absurd (nextZ_none h1) h
  · by_cases h2 : 9223372036854775807 - (s - modZ n s) < n
    · exact absurd (nextZ_full h2) h
    · have m := modZ_in (n := n) (d := s) (by omega)
      have e := nextZ_some (n := n) (s := s) (by omega) (by omega)
      have q : s * (n / s) + n % s = n := Int.mul_ediv_add_emod n s
      have em : modZ n s = n % s := by unfold modZ; rw [if_neg h1]
      refine ⟨by omega, by omega, by omega, by omega, ?_⟩
      have : nextZ n s = s * (n / s + 1) := by rw [e, em, Int.mul_add]; omega
      rw [this]; exact Int.mul_emod_right _ _

theorem calcNext_walk (n s : Int) (hn : -9223372036854775808 ≤ n ∧ n ≤ 9223372036854775807) (hd : -9223372036854775808 ≤ s ∧ s ≤ 9223372036854775807) (w : World) :
    Calls Try.prog 5 #[.int .i64 n, .int .i64 s] w fun e w' => e = .returned (.bool true) ∧ w = w' := by
  by_cases h : nextZ n s = n
  · have f0 : (nextZ n s == n) = true := by rw [h]; simp
    clear h
    go_enter Try.func5, Try.ntmps5
    go_wp2_with (first | (go_at_call 14; refine (calc_next _ _ _ (by omega) (by omega) (by omega)).mono ?_; rintro e w' ⟨rfl, rfl⟩) | (go_at_call 15; refine (ref_next _ _ _ (by omega) (by omega) (by omega)).mono ?_; rintro e w' ⟨rfl, rfl⟩) | (go_at_call 9; refine (lives01 _).mono ?_; rintro e w' ⟨rfl, rfl⟩))
    go_ret
    exact ⟨rfl, rfl⟩
  · obtain ⟨h1, h2, h3, h4, h5⟩ := nextZ_mod h
    have f0 : (nextZ n s == n) = false := by simp [h]
    have f1 : ((nextZ n s).tmod s == 0) = true := by
      rw [show (nextZ n s).tmod s = 0 from Int.tmod_eq_zero_of_dvd (Int.dvd_of_emod_eq_zero h5)]; rfl
    have f2 : (nextZ n s % s == 0) = true := by rw [h5]; rfl
    clear h h5
    by_cases hp : 0 ≤ nextZ n s
    all_goals
      go_enter Try.func5, Try.ntmps5
      go_wp2_with (first | (go_at_call 14; refine (calc_next _ _ _ (by omega) (by omega) (by omega)).mono ?_; rintro e w' ⟨rfl, rfl⟩) | (go_at_call 15; refine (ref_next _ _ _ (by omega) (by omega) (by omega)).mono ?_; rintro e w' ⟨rfl, rfl⟩) | (go_at_call 9; refine (lives01 _).mono ?_; rintro e w' ⟨rfl, rfl⟩))
      go_ret
      exact ⟨rfl, rfl⟩

theorem calcSpans_walk (a n l : Int) (ha : -9223372036854775808 ≤ a ∧ a ≤ 9223372036854775807) (hn : -9223372036854775808 ≤ n ∧ n ≤ 9223372036854775807) (hl : -9223372036854775808 ≤ l ∧ l ≤ 9223372036854775807) (w : World) :
    Calls Try.prog 6 #[.int .i64 a, .int .i64 n, .int .i64 l] w fun e w' => e = .returned (.bool true) ∧ w = w' := by
  by_cases h : a < 0 ∨ l < a ∨ n < 0 ∨ l - a < n
  · have H := Lib.hid h
    by_cases h1 : a < 0
    · clear h
      go_enter Try.func6, Try.ntmps6
      go_wp2_with (first | (go_at_call 16; refine (calc_span_none _ _ _ _ ha hl H.out).mono ?_; rintro e w' ⟨rfl, rfl⟩) | (go_at_call 17; refine (calc_digits _ _ (by omega) (by omega)).mono ?_; rintro e w' ⟨rfl, rfl⟩) | (go_at_call 18; refine (ref_digits _ _ (by omega) (by omega)).mono ?_; rintro e w' ⟨rfl, rfl⟩) | (go_at_call 9; refine (lives01 _).mono ?_; rintro e w' ⟨rfl, rfl⟩))
      go_ret
      exact ⟨rfl, rfl⟩
    · by_cases h2 : n < 0
      · clear h
        go_enter Try.func6, Try.ntmps6
        go_wp2_with (first | (go_at_call 16; refine (calc_span_none _ _ _ _ ha hl H.out).mono ?_; rintro e w' ⟨rfl, rfl⟩) | (go_at_call 17; refine (calc_digits _ _ (by omega) (by omega)).mono ?_; rintro e w' ⟨rfl, rfl⟩) | (go_at_call 18; refine (ref_digits _ _ (by omega) (by omega)).mono ?_; rintro e w' ⟨rfl, rfl⟩) | (go_at_call 9; refine (lives01 _).mono ?_; rintro e w' ⟨rfl, rfl⟩))
        go_ret
        exact ⟨rfl, rfl⟩
      · by_cases h3 : l < a
        · clear h
          go_enter Try.func6, Try.ntmps6
          go_wp2_with (first | (go_at_call 16; refine (calc_span_none _ _ _ _ ha hl H.out).mono ?_; rintro e w' ⟨rfl, rfl⟩) | (go_at_call 17; refine (calc_digits _ _ (by omega) (by omega)).mono ?_; rintro e w' ⟨rfl, rfl⟩) | (go_at_call 18; refine (ref_digits _ _ (by omega) (by omega)).mono ?_; rintro e w' ⟨rfl, rfl⟩) | (go_at_call 9; refine (lives01 _).mono ?_; rintro e w' ⟨rfl, rfl⟩))
          go_ret
          exact ⟨rfl, rfl⟩
        · have h4 : l - a < n := by omega
          clear h
          go_enter Try.func6, Try.ntmps6
          go_wp2_with (first | (go_at_call 16; refine (calc_span_none _ _ _ _ ha hl H.out).mono ?_; rintro e w' ⟨rfl, rfl⟩) | (go_at_call 17; refine (calc_digits _ _ (by omega) (by omega)).mono ?_; rintro e w' ⟨rfl, rfl⟩) | (go_at_call 18; refine (ref_digits _ _ (by omega) (by omega)).mono ?_; rintro e w' ⟨rfl, rfl⟩) | (go_at_call 9; refine (lives01 _).mono ?_; rintro e w' ⟨rfl, rfl⟩))
          go_ret
          exact ⟨rfl, rfl⟩
  · have h1 : 0 ≤ a := by omega
    have h2 : a ≤ l := by omega
    have h3 : 0 ≤ n := by omega
    have h4 : n ≤ l - a := by omega
    have h5 : (a + n - a == n) = true := by simp; omega
    have h6 : a + n ≤ l := by omega
    have h7 : wrap64 (a + n - a) = n := by rw [IntWalk.wrap64_in _ (by omega)]; omega
    clear h h7
    go_enter Try.func6, Try.ntmps6
    go_wp2_with (first | (go_at_call 16; refine (calc_span_some _ _ _ _ (by omega) (by omega) (by omega) (by omega) (by omega)).mono ?_; rintro e w' ⟨rfl, rfl⟩) | (go_at_call 17; refine (calc_digits _ _ (by omega) (by omega)).mono ?_; rintro e w' ⟨rfl, rfl⟩) | (go_at_call 18; refine (ref_digits _ _ (by omega) (by omega)).mono ?_; rintro e w' ⟨rfl, rfl⟩) | (go_at_call 9; refine (lives01 _).mono ?_; rintro e w' ⟨rfl, rfl⟩))
    go_ret
    exact ⟨rfl, rfl⟩
end Go.Proofs.Ytkcmkilfhibpeaa
