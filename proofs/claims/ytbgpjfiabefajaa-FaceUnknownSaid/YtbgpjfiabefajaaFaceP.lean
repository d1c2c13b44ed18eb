/- face: the program's own small functions, by contract: between, partOf, Known, digit, Advance, Metric. -/
import Derived.Test.YtbgpjfiabefajaaFaceD
namespace Go.Proofs.Ytbgpjfiabefajaa
set_option linter.unusedSimpArgs false
set_option linter.unusedVariables false
set_option linter.unusedSectionVars false
open Go.RowKit

theorem fcBetween_any (r a b : Int) (w : World) (c : Bool) (hc : decide (a ≤ r ∧ r ≤ b) = c) : Calls Try.prog 83 #[.int .i32 r, .int .i32 a, .int .i32 b] w fun e w' => e = .returned (.bool c) ∧ w = w' := by
  have H := Lib.hid hc
  clear hc
  by_cases h1 : a ≤ r
  · go_enter Try.func83, Try.ntmps83
    go_wp2
    go_ret
    exact ⟨ret_bool (by rw [← H.out]; rw [Bool.eq_iff_iff]; simp; try omega), rfl⟩
  · go_enter Try.func83, Try.ntmps83
    go_wp2
    go_ret
    exact ⟨ret_bool (by rw [← H.out]; simp; try omega), rfl⟩
def partZ (r : Int) : Int := if 32 ≤ r ∧ r ≤ 126 then 1 else if 160 ≤ r ∧ r ≤ 255 then 2 else if 9472 ≤ r ∧ r ≤ 9599 then 3 else 0
theorem partZ_known (r : Int) : (partZ r != 0) = knownZ r := by
  unfold partZ knownZ
  by_cases q1 : 32 ≤ r ∧ r ≤ 126
  · rw [if_pos q1, decide_eq_true q1]; rfl
  · rw [if_neg q1, decide_eq_false q1]
    by_cases q2 : 160 ≤ r ∧ r ≤ 255
    · rw [if_pos q2, decide_eq_true q2]; rfl
    · rw [if_neg q2, decide_eq_false q2]
      by_cases q3 : 9472 ≤ r ∧ r ≤ 9599
      · rw [if_pos q3, decide_eq_true q3]; rfl
      · rw [if_neg q3, decide_eq_false q3]; rfl
set_option maxRecDepth 100000 in
theorem fcPart_any (r : Int) (w : World) (c : Int) (hc : partZ r = c) : Calls Try.prog 72 #[.int .i32 r] w fun e w' => e = .returned (.int .i64 c) ∧ w = w' := by
  have H := Lib.hid hc
  have HB1 := Lib.hid (fun w => fcBetween_any r 32 126 w _ rfl)
  have HB2 := Lib.hid (fun w => fcBetween_any r 160 255 w _ rfl)
  have HB3 := Lib.hid (fun w => fcBetween_any r 9472 9599 w _ rfl)
  clear hc
  by_cases q1 : 32 ≤ r ∧ r ≤ 126
  · have HZ : Hid (1 = c) := Lib.hid (by rw [← H.out]; unfold partZ; rw [if_pos q1])
    rw [decide_eq_true q1] at HB1
    clear q1 H
    go_enter Try.func72, Try.ntmps72
    go_wp2_with fail
    refine (HB1.out _).mono ?_
    rintro e w' ⟨rfl, rfl⟩
    go_wp2_with fail
    go_ret
    exact ⟨ret_int HZ.out, rfl⟩
  · rw [decide_eq_false q1] at HB1
    by_cases q2 : 160 ≤ r ∧ r ≤ 255
    · have HZ : Hid (2 = c) := Lib.hid (by rw [← H.out]; unfold partZ; rw [if_neg q1, if_pos q2])
      rw [decide_eq_true q2] at HB2
      clear q1 q2 H
      go_enter Try.func72, Try.ntmps72
      go_wp2_with fail
      refine (HB1.out _).mono ?_
      rintro e w' ⟨rfl, rfl⟩
      go_wp2_with fail
      refine (HB2.out _).mono ?_
      rintro e w' ⟨rfl, rfl⟩
      go_wp2_with fail
      go_ret
      exact ⟨ret_int HZ.out, rfl⟩
    · rw [decide_eq_false q2] at HB2
      by_cases q3 : 9472 ≤ r ∧ r ≤ 9599
      · have HZ : Hid (3 = c) := Lib.hid (by rw [← H.out]; unfold partZ; rw [if_neg q1, if_neg q2, if_pos q3])
        rw [decide_eq_true q3] at HB3
        clear q1 q2 q3 H
        go_enter Try.func72, Try.ntmps72
        go_wp2_with fail
        refine (HB1.out _).mono ?_
        rintro e w' ⟨rfl, rfl⟩
        go_wp2_with fail
        refine (HB2.out _).mono ?_
        rintro e w' ⟨rfl, rfl⟩
        go_wp2_with fail
        refine (HB3.out _).mono ?_
        rintro e w' ⟨rfl, rfl⟩
        go_wp2_with fail
        go_ret
        exact ⟨ret_int HZ.out, rfl⟩
      · have HZ : Hid (0 = c) := Lib.hid (by rw [← H.out]; unfold partZ; rw [if_neg q1, if_neg q2, if_neg q3])
        rw [decide_eq_false q3] at HB3
        clear q1 q2 q3 H
        go_enter Try.func72, Try.ntmps72
        go_wp2_with fail
        refine (HB1.out _).mono ?_
        rintro e w' ⟨rfl, rfl⟩
        go_wp2_with fail
        refine (HB2.out _).mono ?_
        rintro e w' ⟨rfl, rfl⟩
        go_wp2_with fail
        refine (HB3.out _).mono ?_
        rintro e w' ⟨rfl, rfl⟩
        go_wp2_with fail
        go_ret
        exact ⟨ret_int HZ.out, rfl⟩
theorem fcKnown_any (r : Int) (w : World) (c : Bool) (hc : knownZ r = c) : Calls Try.prog 41 #[.int .i32 r] w fun e w' => e = .returned (.bool c) ∧ AnyLater w w' := by
  have H : Hid ((partZ r != 0) = c) := Lib.hid ((partZ_known r).trans hc)
  have HP := Lib.hid (fun w => fcPart_any r w _ rfl)
  clear hc
  generalize partZ r = p at *
  go_enter Try.func41, Try.ntmps41
  go_wp2_with fail
  refine (HP.out _).mono ?_
  rintro e w' ⟨rfl, rfl⟩
  go_wp2_with fail
  go_ret
  exact ⟨ret_bool H.out, AnyLater.refl _⟩
theorem fcDigit_any (c : Int) (w : World) (d : Int) (hd : digZ c = d) (hc : (48 ≤ c ∧ c ≤ 57) ∨ (65 ≤ c ∧ c ≤ 70)) : Calls Try.prog 84 #[.int .u8 c] w fun e w' => e = .returned (.int .u8 d) ∧ w = w' := by
  unfold digZ at hd
  by_cases q : 65 ≤ c
  · rw [if_pos q] at hd
    have HD := Lib.hid hd
    have h1 : c ≤ 70 := by omega
    clear hd hc
    go_enter Try.func84, Try.ntmps84
    go_wp2_with fail
    go_ret
    exact ⟨ret_int (by rw [← HD.out]; omega), rfl⟩
  · rw [if_neg q] at hd
    have HD := Lib.hid hd
    have h1 : 48 ≤ c ∧ c ≤ 57 := by omega
    obtain ⟨h1, h2⟩ := h1
    clear hd hc
    go_enter Try.func84, Try.ntmps84
    go_wp2_with fail
    go_ret
    exact ⟨ret_int HD.out, rfl⟩
theorem fcAdv_any (f r : Int) (w : World) (n : Int) (hn : (if 0 ≤ f ∧ f ≤ 2 then wideF f else 0) = n) : Calls Try.prog 45 #[.int .i64 f, .int .i32 r] w fun e w' => e = .returned (.int .i64 n) ∧ AnyLater w w' := by
  by_cases q : 0 ≤ f ∧ f ≤ 2
  · rw [if_pos q] at hn
    have hff : f = 0 ∨ f = 1 ∨ f = 2 := by omega
    clear q
    rcases hff with rfl | rfl | rfl
    all_goals
      have H := Lib.hid hn
      clear hn
      go_enter Try.func45, Try.ntmps45
      go_wp2_with fail
      go_ret
      exact ⟨ret_int (by rw [← H.out]; rfl), AnyLater.refl _⟩
  · rw [if_neg q] at hn
    have d0 : (f == 0) = false := by simp; omega
    have d1 : (f == 1) = false := by simp; omega
    have d2 : (f == 2) = false := by simp; omega
    have H := Lib.hid hn
    clear hn q
    go_enter Try.func45, Try.ntmps45
    go_wp2_with fail
    go_ret
    exact ⟨ret_int H.out, AnyLater.refl _⟩
theorem fcMet_any (f : Int) (w : World) : Calls Try.prog 44 #[.int .i64 f] w fun e w' => e = .returned (if 0 ≤ f ∧ f ≤ 2 then .tuple #[.int .i64 (upF f), .int .i64 (downF f), .bool true] else .tuple #[.int .i64 0, .int .i64 0, .bool false]) ∧ AnyLater w w' := by
  by_cases q : 0 ≤ f ∧ f ≤ 2
  · rw [if_pos q]
    have hff : f = 0 ∨ f = 1 ∨ f = 2 := by omega
    clear q
    rcases hff with rfl | rfl | rfl
    all_goals
      go_enter Try.func44, Try.ntmps44
      go_wp2_with fail
      refine bodyPost_ret (by simp [results, Try.results44, go_sem, *]; rfl) rfl ?_
      exact ⟨rfl, AnyLater.refl _⟩
  · rw [if_neg q]
    have d0 : (f == 0) = false := by simp; omega
    have d1 : (f == 1) = false := by simp; omega
    have d2 : (f == 2) = false := by simp; omega
    clear q
    go_enter Try.func44, Try.ntmps44
    go_wp2_with fail
    refine bodyPost_ret (by simp [results, Try.results44, go_sem, *]; rfl) rfl ?_
    exact ⟨rfl, AnyLater.refl _⟩
end Go.Proofs.Ytbgpjfiabefajaa
