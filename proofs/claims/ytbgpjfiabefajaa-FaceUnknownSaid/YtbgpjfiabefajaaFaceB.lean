/- face: the document's own digit and Column, by contract. -/
import Derived.Test.YtbgpjfiabefajaaFaceA
import Derived.Test.YtbgpjfiabefajaaFree
import Derived.Deep.CutBlock
import Derived.Deep.DeepCutAuto
namespace Go.Proofs.Ytbgpjfiabefajaa
set_option linter.unusedSimpArgs false
set_option linter.unusedVariables false
set_option linter.unusedSectionVars false
open Go.RowKit

set_option maxRecDepth 100000 in
theorem digit_any (c : Int) (w : World) (d : Int) (hd : digZ c = d) (hc : (48 ≤ c ∧ c ≤ 57) ∨ (65 ≤ c ∧ c ≤ 70)) : Calls Try.prog 76 #[.int .u8 c] w fun e w' => e = .returned (.int .i64 d) ∧ w = w' := by
  unfold digZ at hd
  by_cases q : 65 ≤ c
  · rw [if_pos q] at hd
    have HD := Lib.hid hd
    have h1 : c ≤ 70 := by omega
    clear hd hc
    go_enter Try.func76, Try.ntmps76
    go_wp2_with fail
    go_ret
    exact ⟨ret_int (by rw [← HD.out]; omega), rfl⟩
  · rw [if_neg q] at hd
    have HD := Lib.hid hd
    have h1 : 48 ≤ c ∧ c ≤ 57 := by omega
    obtain ⟨h1, h2⟩ := h1
    clear hd hc
    go_enter Try.func76, Try.ntmps76
    go_wp2_with fail
    go_ret
    exact ⟨ret_int HD.out, rfl⟩
set_option maxRecDepth 1000000 in
set_option maxHeartbeats 3200000 in
theorem col_ascii (r i : Int) (w : World) (c : Int) (hc : fcolZ r i = c) (hr : 32 ≤ r ∧ r ≤ 126) (hi : 0 ≤ i ∧ i ≤ 4) : Calls Try.prog 40 #[.int .i32 r, .int .i64 i] w fun e w' => e = .returned (.int .i64 c) ∧ AnyLater w w' := by
  obtain ⟨r1, r2⟩ := hr
  obtain ⟨i1, i2⟩ := hi
  have F1 := fun w => run_font (t := 9) (by kernel_rfl) w .i64 (10 * (r - 32) + 2 * i) (by omega) (by omega)
  have F2 := fun w => run_font (t := 9) (by kernel_rfl) w .i64 (10 * (r - 32) + 2 * i + 1) (by omega) (by omega)
  have g1 := font_in (i := 10 * (r - 32) + 2 * i) (by omega) (by omega)
  have g2 := font_in (i := 10 * (r - 32) + 2 * i + 1) (by omega) (by omega)
  unfold fcolZ at hc
  generalize fontZ (10 * (r - 32) + 2 * i) = x1 at *
  generalize fontZ (10 * (r - 32) + 2 * i + 1) = x2 at *
  have D1 := Lib.hid (fun w => same_later (digit_any x1 w _ rfl g1))
  have D2 := Lib.hid (fun w => same_later (digit_any x2 w _ rfl g2))
  have e1 := digZ_in g1
  have e2 := digZ_in g2
  generalize digZ x1 = d1 at *
  generalize digZ x2 = d2 at *
  have HC := Lib.hid hc
  have HL := Lib.hid (AnyLater.refl w)
  clear hc
  go_enter Try.func40, Try.ntmps40
  go_wp2_with fail
  apply wp_region_free (9) [⟨2, 30, .int .i64 d1, false, fun v _ => v = .int .i64 d1⟩, ⟨7, 35, .int .i64 d2, false, fun v _ => v = .int .i64 d2⟩] [] rfl (by kernel_rfl) (by kernel_rfl) (by kernel_rfl) (by simp) (by kernel_rfl)
  case hstab =>
    intro c hc
    simp only [List.mem_cons, List.not_mem_nil, or_false] at hc
    rcases hc with rfl | rfl
    · intro v x y hxy hv; exact hv
    · intro v x y hxy hv; exact hv
  case hfix =>
    intro c hc
    simp only [List.mem_cons, List.not_mem_nil, or_false] at hc
    rcases hc with rfl | rfl
    · exact .inr fun u x h => h
    · exact .inr fun u x h => h
  case hlex =>
    intro U hU
    simp only [List.map_cons, List.map_nil, CA.act, actFrom, actOp, List.lookup, Nat.reduceBEq, Nat.reduceLeDiff, Nat.reduceAdd, if_false, if_true]
    repeat (go_big_quiet_step (first | fail))
    exact wpQuiet_nil rfl
  case hstep =>
    intro j hj o ho
    have hj2 : j = 0 ∨ j = 1 := by simp at hj; omega
    rcases hj2 with rfl | rfl
    · cases ho
      refine ⟨rfl, fun g x hx hp => ?_⟩
      clear hp
      simp only [fillAll, Act.put, List.setIfInBounds_toArray, List.set_cons_zero, List.set_cons_succ]
      refine chain_go ?_ (free_fix (D1.out x))
      simp [go_sem, execOp]
    · cases ho
      refine ⟨rfl, fun g x hx hp => ?_⟩
      clear hp
      simp only [fillAll, Act.put, List.setIfInBounds_toArray, List.set_cons_zero, List.set_cons_succ]
      refine chain_go ?_ (free_fix (D2.out x))
      simp [go_sem, execOp]
  case htail =>
    intro g u hst hne
    have b_w1 : AnyLater w (later u) := ⟨u, rfl⟩
    generalize later u = w1 at *
    clear u
    clear hst hne
    simp only [fillAll, Act.put, List.setIfInBounds_toArray, List.set_cons_zero, List.set_cons_succ, List.drop_succ_cons, List.drop_zero, List.drop_nil]
    have z_w1 := b_w1.below.size
    have a_w1 := b_w1
    go_wp2_with fail
    go_ret
    exact ⟨ret_int (by rw [← HC.out]), b_w1⟩
set_option maxRecDepth 1000000 in
set_option maxHeartbeats 3200000 in
theorem col_latin (r i : Int) (w : World) (c : Int) (hc : colZ r i = c) (hr : 160 ≤ r ∧ r ≤ 255) (hi : 0 ≤ i ∧ i ≤ 4) : Calls Try.prog 40 #[.int .i32 r, .int .i64 i] w fun e w' => e = .returned (.int .i64 c) ∧ AnyLater w w' := by
  obtain ⟨r1, r2⟩ := hr
  have HI := Lib.hid hi
  obtain ⟨i1, i2⟩ := hi
  have F1 := fun w => run_latin (t := 9) (by kernel_rfl) w .i64 (r - 160) (by omega) (by omega)
  have g1 := latin_in (i := r - 160) (by omega) (by omega)
  unfold colZ at hc
  rw [if_neg (by omega), if_pos ⟨r1, r2⟩] at hc
  generalize latZ (r - 160) = y at *
  obtain ⟨y1, y2⟩ := g1
  have D := Lib.hid (fun w => col_ascii y i w _ rfl ⟨y1, y2⟩ HI.out)
  have e1 := fcolZ_in (n := y) (i := i) ⟨y1, y2⟩ HI.out
  generalize fcolZ y i = x at *
  by_cases q : r % 5 = i
  · rw [if_pos q] at hc
    have d0 : (r % 5 != i) = false := by simpa using q
    clear q
    by_cases q2 : 128 ≤ x
    · rw [if_pos q2] at hc
      have HC := Lib.hid hc
      clear hc
      go_enter Try.func40, Try.ntmps40
      go_wp2_with fail
      refine (D.out _).mono ?_
      rintro e w1 ⟨rfl, b1⟩
      have HB := Lib.hid b1
      clear b1
      go_wp2_with fail
      go_ret
      exact ⟨ret_int HC.out, HB.out⟩
    · rw [if_neg q2] at hc
      have HC := Lib.hid hc
      clear hc
      go_enter Try.func40, Try.ntmps40
      go_wp2_with fail
      refine (D.out _).mono ?_
      rintro e w1 ⟨rfl, b1⟩
      have HB := Lib.hid b1
      clear b1
      go_wp2_with fail
      go_ret
      exact ⟨ret_int HC.out, HB.out⟩
  · rw [if_neg q] at hc
    have d0 : (r % 5 != i) = true := by simpa using q
    have HC := Lib.hid hc
    clear hc q
    go_enter Try.func40, Try.ntmps40
    go_wp2_with fail
    refine (D.out _).mono ?_
    rintro e w1 ⟨rfl, b1⟩
    have HB := Lib.hid b1
    clear b1
    go_wp2_with fail
    go_ret
    exact ⟨ret_int HC.out, HB.out⟩
set_option maxRecDepth 1000000 in
set_option maxHeartbeats 3200000 in
theorem col_none (r i : Int) (w : World) (c : Int) (hc : colZ r i = c) (hr : knownZ r = false) (hb : -2147483648 ≤ r ∧ r ≤ 2147483647) (hi : 0 ≤ i ∧ i ≤ 4) : Calls Try.prog 40 #[.int .i32 r, .int .i64 i] w fun e w' => e = .returned (.int .i64 c) ∧ AnyLater w w' := by
  rw [colZ_none hr] at hc
  obtain ⟨b1, b2⟩ := hb
  obtain ⟨i1, i2⟩ := hi
  unfold knownZ at hr
  simp only [Bool.or_eq_false_iff, decide_eq_false_iff_not] at hr
  obtain ⟨⟨n1, n2⟩, n3⟩ := hr
  have q : r < 32 ∨ (126 < r ∧ r < 160) ∨ (255 < r ∧ r < 9472) ∨ 9599 < r := by omega
  clear n1 n2 n3
  by_cases qi : i = 0 ∨ i = 4
  · rw [if_pos qi] at hc
    have HC := Lib.hid hc
    clear hc
    have qi2 : (i = 0) ∨ (i = 4 ∧ (i == 0) = false) := by
      rcases qi with h | h
      · exact .inl h
      · exact .inr ⟨h, by simp; omega⟩
    clear qi
    rcases qi2 with rfl | ⟨rfl, _⟩ <;> rcases q with q | ⟨q, q'⟩ | ⟨q, q'⟩ | q
    all_goals
      go_enter Try.func40, Try.ntmps40
      go_wp2_with fail
      go_ret
      exact ⟨ret_int HC.out, AnyLater.refl _⟩
  · rw [if_neg qi] at hc
    have HC := Lib.hid hc
    have d0 : (i == 0) = false := by simp; omega
    have d4 : (i == 4) = false := by simp; omega
    clear hc qi
    rcases q with q | ⟨q, q'⟩ | ⟨q, q'⟩ | q
    all_goals
      go_enter Try.func40, Try.ntmps40
      go_wp2_with fail
      go_ret
      exact ⟨ret_int HC.out, AnyLater.refl _⟩
end Go.Proofs.Ytbgpjfiabefajaa
