/- The functions of calc and of its twin, each by a contract: what it answers for all numbers handed in, and that it leaves the world alone. No condition beyond that each argument is a number of its kind. -/
import Derived.Test.YtkcmkilfhibpeaaRows
import Derived.WalkKit
import Derived.ProofKit
import Derived.OpenShut
import Derived.WalkLawsBesides
import Derived.IntWalk
import Derived.Lib.Hide
import Derived.Outline
namespace Go.Proofs.Ytkcmkilfhibpeaa
open Go.RowKit

def clampZ (n low high : Int) : Int := if n < low ∨ high < low then low else if high < n then high else n
theorem clampZ_low {n low high : Int} (h : n < low ∨ high < low) : clampZ n low high = low := by unfold clampZ; rw [if_pos h]
theorem clampZ_high {n low high : Int} (h : low ≤ n) (h2 : low ≤ high) (h3 : high ≤ n) : clampZ n low high = high := by
  unfold clampZ; rw [if_neg (by omega)]; split <;> omega
theorem clampZ_same {n low high : Int} (h : low ≤ n) (h2 : low ≤ high) (h3 : n ≤ high) : clampZ n low high = n := by
  unfold clampZ; rw [if_neg (by omega), if_neg (by omega)]
theorem ret_int {k : IntKind} {a b : Int} (h : a = b) : Ending.returned (.int k a) = .returned (.int k b) := by rw [h]

theorem calc_clamp (n low high : Int) (w : World) :
    Calls Try.prog 7 #[.int .i64 n, .int .i64 low, .int .i64 high] w fun e w' => e = .returned (.int .i64 (clampZ n low high)) ∧ w = w' := by
  by_cases h1 : n < low
  · go_enter Try.func7, Try.ntmps7
    go_wp2
    go_ret
    exact ⟨ret_int (clampZ_low (.inl h1)).symm, rfl⟩
  · by_cases h2 : high < low
    · go_enter Try.func7, Try.ntmps7
      go_wp2
      go_ret
      exact ⟨ret_int (clampZ_low (.inr h2)).symm, rfl⟩
    · by_cases h3 : high < n
      · go_enter Try.func7, Try.ntmps7
        go_wp2
        go_ret
        exact ⟨ret_int (clampZ_high (by omega) (by omega) (by omega)).symm, rfl⟩
      · go_enter Try.func7, Try.ntmps7
        go_wp2
        go_ret
        exact ⟨ret_int (clampZ_same (by omega) (by omega) (by omega)).symm, rfl⟩

theorem ref_clamp (n low high : Int) (w : World) :
    Calls Try.prog 8 #[.int .i64 n, .int .i64 low, .int .i64 high] w fun e w' => e = .returned (.int .i64 (clampZ n low high)) ∧ w = w' := by
  by_cases h2 : high < low
  · go_enter Try.func8, Try.ntmps8
    go_wp2
    go_ret
    exact ⟨ret_int (clampZ_low (.inr h2)).symm, rfl⟩
  · by_cases h1 : n < low
    · go_enter Try.func8, Try.ntmps8
      go_wp2
      go_ret
      exact ⟨ret_int (clampZ_low (.inl h1)).symm, rfl⟩
    · by_cases h3 : high < n
      · go_enter Try.func8, Try.ntmps8
        go_wp2
        go_ret
        exact ⟨ret_int (clampZ_high (by omega) (by omega) (by omega)).symm, rfl⟩
      · go_enter Try.func8, Try.ntmps8
        go_wp2
        go_ret
        exact ⟨ret_int (clampZ_same (by omega) (by omega) (by omega)).symm, rfl⟩

/-! ### quotient and rest -/
def floorZ (n d : Int) : Int := if d ≤ 0 then 0 else n / d
def modZ (n d : Int) : Int := if d ≤ 0 then 0 else n % d
theorem quo_neg {n d : Int} (hd : 0 < d) (hn : n < 0) : (n % d = 0 ∧ n.tmod d = 0 ∧ n.tdiv d = n / d) ∨ (0 < n % d ∧ n.tmod d = n % d - d ∧ n.tdiv d = n / d + 1) := by
  have h1 := Int.emod_nonneg n (show d ≠ 0 by omega)
  have h3 : d * (n / d) + n % d = n := Int.mul_ediv_add_emod n d
  have h4 := Int.mul_tdiv_add_tmod n d
  have ht : n.tdiv d = if 0 ≤ n ∨ d ∣ n then n / d else n / d + d.sign := by
    rw [Int.tdiv_eq_ediv]; split <;> simp_all
  by_cases hz : n % d = 0
  · refine .inl ⟨hz, ?_, ?_⟩
    · exact Int.tmod_eq_zero_of_dvd (Int.dvd_of_emod_eq_zero hz)
    · rw [ht, if_pos (.inr (Int.dvd_of_emod_eq_zero hz))]
  · have hnd : ¬ (0 ≤ n ∨ d ∣ n) := by
      rintro (h | h)
      · omega
      · exact hz (Int.emod_eq_zero_of_dvd h)
    rw [if_neg hnd, Int.sign_eq_one_of_pos hd] at ht
    refine .inr ⟨by omega, ?_, ht⟩
    rw [ht, Int.mul_add] at h4
    omega
theorem quo_in {n d : Int} (hd : 0 < d) : (0 ≤ n → 0 ≤ n / d ∧ n / d ≤ n) ∧ (n < 0 → n ≤ n / d ∧ n / d < 0) := by
  constructor
  · intro h
    exact ⟨Int.ediv_nonneg h (by omega), Int.ediv_le_self _ h⟩
  · intro h
    refine ⟨?_, Int.ediv_neg_of_neg_of_pos h hd⟩
    rw [Int.le_ediv_iff_mul_le hd]
    have := Int.mul_le_mul_of_nonpos_left (show n ≤ 0 by omega) (show (1 : Int) ≤ d by omega)
    omega

theorem calc_floor (n d : Int) (w : World) (hn : -9223372036854775808 ≤ n) (hn2 : n ≤ 9223372036854775807) :
    Calls Try.prog 10 #[.int .i64 n, .int .i64 d] w fun e w' => e = .returned (.int .i64 (floorZ n d)) ∧ w = w' := by
  by_cases h1 : d ≤ 0
  · go_enter Try.func10, Try.ntmps10
    go_wp2
    go_ret
    exact ⟨ret_int (by unfold floorZ; rw [if_pos h1]), rfl⟩
  · have hq := quo_in (n := n) (d := d) (by omega)
    by_cases h2 : 0 ≤ n
    · obtain ⟨q1, q2⟩ := hq.1 h2
      have r1 := Int.emod_nonneg n (show d ≠ 0 by omega)
      clear hq
      go_enter Try.func10, Try.ntmps10
      go_wp2
      go_ret
      exact ⟨ret_int (by unfold floorZ; rw [if_neg (by omega)]), rfl⟩
    · obtain ⟨q1, q2⟩ := hq.2 (by omega)
      clear hq
      rcases quo_neg (n := n) (d := d) (by omega) (by omega) with ⟨_, h4, h5⟩ | ⟨h3, h4, h5⟩
      · have t1 : n.tmod d ≥ 0 := by omega
        have T := Lib.hid h5
        clear h4 h5
        go_enter Try.func10, Try.ntmps10
        go_wp2
        go_ret
        exact ⟨ret_int (by unfold floorZ; rw [if_neg (by omega), T.out]), rfl⟩
      · have hm := Int.emod_lt_of_pos n (show 0 < d by omega)
        have t1 : n.tmod d < 0 := by omega
        have t2 : -9223372036854775807 ≤ n.tdiv d := by omega
        have t3 : n.tdiv d ≤ 9223372036854775807 := by omega
        have T := Lib.hid h5
        clear h4 h5
        go_enter Try.func10, Try.ntmps10
        go_wp2
        go_ret
        exact ⟨ret_int (by unfold floorZ; rw [if_neg (by omega), T.out]; omega), rfl⟩

theorem ref_floor (n d : Int) (w : World) (hn : -9223372036854775808 ≤ n) (hn2 : n ≤ 9223372036854775807) :
    Calls Try.prog 12 #[.int .i64 n, .int .i64 d] w fun e w' => e = .returned (.int .i64 (floorZ n d)) ∧ w = w' := by
  by_cases h1 : d ≤ 0
  · go_enter Try.func12, Try.ntmps12
    go_wp2
    go_ret
    exact ⟨ret_int (by unfold floorZ; rw [if_pos h1]), rfl⟩
  · have hq := quo_in (n := n) (d := d) (by omega)
    by_cases h2 : 0 ≤ n
    · obtain ⟨q1, q2⟩ := hq.1 h2
      clear hq
      go_enter Try.func12, Try.ntmps12
      go_wp2
      go_ret
      exact ⟨ret_int (by unfold floorZ; rw [if_neg (by omega)]), rfl⟩
    · obtain ⟨q1, q2⟩ := hq.2 (by omega)
      clear hq
      have hmul : n.tdiv d * d = n - n.tmod d := by have := Int.mul_tdiv_add_tmod n d; rw [Int.mul_comm]; omega
      rcases quo_neg (n := n) (d := d) (by omega) (by omega) with ⟨_, h4, h5⟩ | ⟨h3, h4, h5⟩
      · have t1 : (wrap64 (n.tdiv d * d) == n) = true := by rw [hmul, h4, IntWalk.wrap64_in _ (by omega)]; simp
        have t2 : (wrap64 (n.tdiv d * d) != n) = false := by simp [bne, t1]
        have T := Lib.hid h5
        clear h4 h5 hmul
        go_enter Try.func12, Try.ntmps12
        go_wp2
        go_ret
        exact ⟨ret_int (by unfold floorZ; rw [if_neg (by omega), T.out]), rfl⟩
      · have hm := Int.emod_lt_of_pos n (show 0 < d by omega)
        have hp : n.tdiv d * d ≤ 0 := Int.mul_nonpos_of_nonpos_of_nonneg (by omega) (by omega)
        have hw : wrap64 (n.tdiv d * d) = n - n.tmod d := by rw [hmul]; exact IntWalk.wrap64_in _ (by omega)
        have t1 : (wrap64 (n.tdiv d * d) == n) = false := by rw [hw]; simp; omega
        have t4 : (wrap64 (n.tdiv d * d) != n) = true := by simp [bne, t1]
        have t2 : -9223372036854775807 ≤ n.tdiv d := by omega
        have t3 : n.tdiv d ≤ 9223372036854775807 := by omega
        have T := Lib.hid h5
        clear h4 h5 hmul hw
        go_enter Try.func12, Try.ntmps12
        go_wp2
        go_ret
        exact ⟨ret_int (by unfold floorZ; rw [if_neg (by omega), T.out]; omega), rfl⟩

theorem calc_mod (n d : Int) (w : World) (hn : -9223372036854775808 ≤ n) (hd2 : d ≤ 9223372036854775807) :
    Calls Try.prog 11 #[.int .i64 n, .int .i64 d] w fun e w' => e = .returned (.int .i64 (modZ n d)) ∧ w = w' := by
  by_cases h1 : d ≤ 0
  · go_enter Try.func11, Try.ntmps11
    go_wp2
    go_ret
    exact ⟨ret_int (by unfold modZ; rw [if_pos h1]), rfl⟩
  · have m1 := Int.emod_nonneg n (show d ≠ 0 by omega)
    have m2 := Int.emod_lt_of_pos n (show 0 < d by omega)
    by_cases h2 : 0 ≤ n
    · go_enter Try.func11, Try.ntmps11
      go_wp2
      go_ret
      exact ⟨ret_int (by unfold modZ; rw [if_neg (by omega)]), rfl⟩
    · rcases quo_neg (n := n) (d := d) (by omega) (by omega) with ⟨h3, h4, _⟩ | ⟨h3, h4, _⟩
      · have t1 : n.tmod d ≥ 0 := by omega
        have T := Lib.hid h4
        have T3 := Lib.hid h3
        clear h4 h3
        go_enter Try.func11, Try.ntmps11
        go_wp2
        go_ret
        exact ⟨ret_int (by unfold modZ; rw [if_neg (by omega), T.out, T3.out]), rfl⟩
      · have t1 : n.tmod d < 0 := by omega
        have t2 : -9223372036854775807 ≤ n.tmod d := by omega
        have T := Lib.hid h4
        clear h4
        go_enter Try.func11, Try.ntmps11
        go_wp2
        go_ret
        exact ⟨ret_int (by unfold modZ; rw [if_neg (by omega), T.out]; omega), rfl⟩

theorem ref_mod (n d : Int) (w : World) (hn : -9223372036854775808 ≤ n) (hd2 : d ≤ 9223372036854775807) :
    Calls Try.prog 13 #[.int .i64 n, .int .i64 d] w fun e w' => e = .returned (.int .i64 (modZ n d)) ∧ w = w' := by
  by_cases h1 : d ≤ 0
  · go_enter Try.func13, Try.ntmps13
    go_wp2
    go_ret
    exact ⟨ret_int (by unfold modZ; rw [if_pos h1]), rfl⟩
  · have m1 := Int.emod_nonneg n (show d ≠ 0 by omega)
    have m2 := Int.emod_lt_of_pos n (show 0 < d by omega)
    by_cases h2 : 0 ≤ n
    · go_enter Try.func13, Try.ntmps13
      go_wp2
      go_ret
      exact ⟨ret_int (by unfold modZ; rw [if_neg (by omega)]), rfl⟩
    · rcases quo_neg (n := n) (d := d) (by omega) (by omega) with ⟨h3, h4, _⟩ | ⟨h3, h4, _⟩
      · have t1 : n.tmod d ≥ 0 := by omega
        have T := Lib.hid h4
        have T3 := Lib.hid h3
        clear h4 h3
        go_enter Try.func13, Try.ntmps13
        go_wp2
        go_ret
        exact ⟨ret_int (by unfold modZ; rw [if_neg (by omega), T.out, T3.out]), rfl⟩
      · have t1 : n.tmod d < 0 := by omega
        have t2 : -9223372036854775807 ≤ n.tmod d := by omega
        have T := Lib.hid h4
        clear h4
        go_enter Try.func13, Try.ntmps13
        go_wp2
        go_ret
        exact ⟨ret_int (by unfold modZ; rw [if_neg (by omega), T.out]; omega), rfl⟩

/-! ### the next multiple -/
def nextZ (n s : Int) : Int := if s ≤ 0 then n else if 9223372036854775807 - (s - modZ n s) < n then n else n + (s - modZ n s)
theorem modZ_in {n d : Int} (hd : 0 < d) : 0 ≤ modZ n d ∧ modZ n d < d := by
  unfold modZ; rw [if_neg (by omega)]; exact ⟨Int.emod_nonneg n (by omega), Int.emod_lt_of_pos n hd⟩
theorem nextZ_none {n s : Int} (h : s ≤ 0) : nextZ n s = n := by unfold nextZ; rw [if_pos h]
theorem nextZ_full {n s : Int} (h : 9223372036854775807 - (s - modZ n s) < n) : nextZ n s = n := by
  unfold nextZ; rw [if_pos h]; exact ite_self _
theorem nextZ_some {n s : Int} (h1 : 0 < s) (h : n ≤ 9223372036854775807 - (s - modZ n s)) : nextZ n s = n + (s - modZ n s) := by
  unfold nextZ; rw [if_neg (by omega), if_neg (by omega)]

theorem calc_next (n s : Int) (w : World) (hn : -9223372036854775808 ≤ n) (hn2 : n ≤ 9223372036854775807) (hs2 : s ≤ 9223372036854775807) :
    Calls Try.prog 14 #[.int .i64 n, .int .i64 s] w fun e w' => e = .returned (.int .i64 (nextZ n s)) ∧ w = w' := by
  by_cases h1 : s ≤ 0
  · go_enter Try.func14, Try.ntmps14
    go_wp2
    go_ret
    exact ⟨ret_int (nextZ_none h1).symm, rfl⟩
  · obtain ⟨m1, m2⟩ := modZ_in (n := n) (d := s) (by omega)
    by_cases h2 : 9223372036854775807 - (s - modZ n s) < n
    · go_enter Try.func14, Try.ntmps14
      go_wp2_with (go_at_call 11; refine (calc_mod _ _ _ (by omega) (by omega)).mono ?_; rintro e w' ⟨rfl, rfl⟩)
      go_ret
      exact ⟨ret_int (nextZ_full h2).symm, rfl⟩
    · go_enter Try.func14, Try.ntmps14
      go_wp2_with (go_at_call 11; refine (calc_mod _ _ _ (by omega) (by omega)).mono ?_; rintro e w' ⟨rfl, rfl⟩)
      go_ret
      exact ⟨ret_int (nextZ_some (by omega) (by omega)).symm, rfl⟩
theorem ref_next (n s : Int) (w : World) (hn : -9223372036854775808 ≤ n) (hn2 : n ≤ 9223372036854775807) (hs2 : s ≤ 9223372036854775807) :
    Calls Try.prog 15 #[.int .i64 n, .int .i64 s] w fun e w' => e = .returned (.int .i64 (nextZ n s)) ∧ w = w' := by
  by_cases h1 : s ≤ 0
  · go_enter Try.func15, Try.ntmps15
    go_wp2
    go_ret
    exact ⟨ret_int (nextZ_none h1).symm, rfl⟩
  · obtain ⟨m1, m2⟩ := modZ_in (n := n) (d := s) (by omega)
    by_cases h3 : 0 < n
    · by_cases h2 : 9223372036854775807 - n < s - modZ n s
      · go_enter Try.func15, Try.ntmps15
        go_wp2_with (go_at_call 13; refine (ref_mod _ _ _ (by omega) (by omega)).mono ?_; rintro e w' ⟨rfl, rfl⟩)
        go_ret
        exact ⟨ret_int (nextZ_full (by omega)).symm, rfl⟩
      · go_enter Try.func15, Try.ntmps15
        go_wp2_with (go_at_call 13; refine (ref_mod _ _ _ (by omega) (by omega)).mono ?_; rintro e w' ⟨rfl, rfl⟩)
        go_ret
        exact ⟨ret_int (nextZ_some (by omega) (by omega)).symm, rfl⟩
    · go_enter Try.func15, Try.ntmps15
      go_wp2_with (go_at_call 13; refine (ref_mod _ _ _ (by omega) (by omega)).mono ?_; rintro e w' ⟨rfl, rfl⟩)
      go_ret
      exact ⟨ret_int (nextZ_some (by omega) (by omega)).symm, rfl⟩

/-! ### a part of so many -/
theorem calc_span_none (a n l : Int) (w : World) (_ha : -9223372036854775808 ≤ a ∧ a ≤ 9223372036854775807) (_hl : -9223372036854775808 ≤ l ∧ l ≤ 9223372036854775807)
    (h : a < 0 ∨ l < a ∨ n < 0 ∨ l - a < n) :
    Calls Try.prog 16 #[.int .i64 a, .int .i64 n, .int .i64 l] w fun e w' => e = .returned (.tuple #[.int .i64 0, .int .i64 0, .bool false]) ∧ w = w' := by
  by_cases h1 : a < 0
  · go_enter Try.func16, Try.ntmps16
    go_wp2
    go_ret3
    exact ⟨rfl, rfl⟩
  · by_cases h2 : l < a
    · go_enter Try.func16, Try.ntmps16
      go_wp2
      go_ret3
      exact ⟨rfl, rfl⟩
    · by_cases h3 : n < 0
      · go_enter Try.func16, Try.ntmps16
        go_wp2
        go_ret3
        exact ⟨rfl, rfl⟩
      · have h4 : l - a < n := by omega
        clear h
        go_enter Try.func16, Try.ntmps16
        go_wp2
        go_ret3
        exact ⟨rfl, rfl⟩
theorem calc_span_some (a n l : Int) (w : World) (_hl : l ≤ 9223372036854775807) (h1 : 0 ≤ a) (h2 : a ≤ l) (h3 : 0 ≤ n) (h4 : n ≤ l - a) :
    Calls Try.prog 16 #[.int .i64 a, .int .i64 n, .int .i64 l] w fun e w' => e = .returned (.tuple #[.int .i64 a, .int .i64 (a + n), .bool true]) ∧ w = w' := by
  go_enter Try.func16, Try.ntmps16
  go_wp2
  go_ret3
  exact ⟨rfl, rfl⟩

/-! ### digits -/
def dl (m : Nat) : Nat := if m = 0 then 0 else dl (m / 10) + 1
termination_by m
decreasing_by omega
theorem dl_zero : dl 0 = 0 := by rw [dl]; simp
theorem dl_step {m : Nat} (h : m ≠ 0) : dl m = dl (m / 10) + 1 := by rw [dl, if_neg h]
theorem dl_le : ∀ (j m : Nat), m < 10 ^ j → dl m ≤ j
  | 0, m, h => by have : m = 0 := by simpa using h
                  rw [this, dl_zero]; omega
  | j + 1, m, h => by
    by_cases hm : m = 0
    · rw [hm, dl_zero]; omega
    · rw [dl_step hm]; have := dl_le j (m / 10) (by rw [Nat.pow_succ] at h; omega); omega
theorem nat_quo (v : Int) : (v.tdiv 10).natAbs = v.natAbs / 10 := by rw [Int.natAbs_tdiv]; rfl
def digitsZ (n : Int) : Int := (dl (n.natAbs / 10) : Int) + 1
theorem quo10 (v : Int) (h1 : -9223372036854775808 ≤ v) (h2 : v ≤ 9223372036854775807) : -9223372036854775808 ≤ v.tdiv 10 ∧ v.tdiv 10 ≤ 9223372036854775807 := by
  have := nat_quo v
  omega
/-- what the loops know: v is what is left, k what has been counted -/
def Left10 (m : Nat) (v k : Int) : Prop := -9223372036854775808 ≤ v ∧ v ≤ 9223372036854775807 ∧ 1 ≤ k ∧ k ≤ 20 ∧ k + (dl v.natAbs : Int) = (dl m : Int) + 1
theorem Left10.start (n : Int) (h1 : -9223372036854775808 ≤ n) (h2 : n ≤ 9223372036854775807) : Left10 (n.natAbs / 10) (n.tdiv 10) 1 := by
  have := quo10 n h1 h2
  have e := nat_quo n
  refine ⟨this.1, this.2, by omega, by omega, ?_⟩
  rw [e]; omega
theorem Left10.next {m : Nat} {v k : Int} (hm : m < 10 ^ 19) (h : Left10 m v k) (hv : v ≠ 0) : Left10 m (v.tdiv 10) (k + 1) := by
  obtain ⟨h1, h2, h3, h4, h5⟩ := h
  have q := quo10 v h1 h2
  have e := nat_quo v
  have d := dl_le 19 m hm
  rw [dl_step (m := v.natAbs) (by omega)] at h5
  refine ⟨q.1, q.2, by omega, by omega, ?_⟩
  rw [e]; omega
theorem Left10.last {n k : Int} (h : Left10 (n.natAbs / 10) 0 k) : k = digitsZ n := by
  obtain ⟨_, _, _, _, h5⟩ := h
  rw [show (0 : Int).natAbs = 0 from rfl, dl_zero] at h5
  unfold digitsZ; omega
theorem quo_lt (v : Int) (h : v ≠ 0) : (v.tdiv 10).natAbs < v.natAbs := by rw [nat_quo]; omega
theorem quo_sign (v : Int) : (0 ≤ v → v / 10 = v.tdiv 10) := fun h => (Int.tdiv_eq_ediv_of_nonneg h).symm

theorem calc_digits (n : Int) (w : World) (hn : -9223372036854775808 ≤ n) (hn2 : n ≤ 9223372036854775807) :
    Calls Try.prog 17 #[.int .i64 n] w fun e w' => e = .returned (.int .i64 (digitsZ n)) ∧ w = w' := by
  obtain ⟨q1, q2⟩ := quo10 n hn hn2
  have HS := Lib.hid (Left10.start n hn hn2)
  go_enter Try.func17, Try.ntmps17
  go_wp2
  go_loop [0, 3] (fun x k => ∃ v c : Int, Left10 (n.natAbs / 10) v c ∧ x = .int .i64 v ∧ k = .int .i64 c) (fun x _ => (intOf x).natAbs)
  case atStart => exact ⟨n.tdiv 10, 1, HS.out, by first | rfl | (rw [← quo_sign n (by omega)]), rfl⟩
  case round =>
    obtain ⟨v, c, hL, rfl, rfl⟩ := hrel
    by_cases hv : v = 0
    · subst hv
      have HL := Lib.hid hL
      clear hL
      go_wp2
      go_ret
      exact ⟨ret_int HL.out.last, rfl⟩
    · have HN := Lib.hid (hL.next (by omega) hv)
      obtain ⟨b1, b2, b3, b4, _⟩ := hL
      have hvb : (v == 0) = false := by simp [hv]
      by_cases hs : 0 ≤ v
      all_goals
        go_wp2
        go_round
        case rel => exact ⟨v.tdiv 10, c + 1, HN.out, by first | rfl | (rw [quo_sign v (by omega)]), rfl⟩
        case measure => have := quo_lt v hv; have := quo_sign v; simp only [intOf]; omega
theorem ref_digits (n : Int) (w : World) (hn : -9223372036854775808 ≤ n) (hn2 : n ≤ 9223372036854775807) :
    Calls Try.prog 18 #[.int .i64 n] w fun e w' => e = .returned (.int .i64 (digitsZ n)) ∧ w = w' := by
  obtain ⟨q1, q2⟩ := quo10 n hn hn2
  have HS := Lib.hid (Left10.start n hn hn2)
  go_enter Try.func18, Try.ntmps18
  go_wp2
  go_loop [3, 4, 5] (fun k x i => ∃ v c : Int, Left10 (n.natAbs / 10) v c ∧ x = .int .i64 v ∧ k = .int .i64 c ∧ i = .int .i64 (c - 1)) (fun _ x _ => (intOf x).natAbs)
  case atStart => exact ⟨n.tdiv 10, 1, HS.out, by first | rfl | (rw [← quo_sign n (by omega)]), rfl, rfl⟩
  case round =>
    obtain ⟨v, c, hL, rfl, rfl, rfl⟩ := hrel
    by_cases hv : v = 0
    · subst hv
      have HL := Lib.hid hL
      obtain ⟨b1, b2, b3, b4, _⟩ := hL
      have hi : c - 1 < 30 := by omega
      go_wp2
      go_ret
      exact ⟨ret_int HL.out.last, rfl⟩
    · have HN := Lib.hid (hL.next (by omega) hv)
      obtain ⟨b1, b2, b3, b4, _⟩ := hL
      have hvb : (v == 0) = false := by simp [hv]
      have hi : c - 1 < 30 := by omega
      by_cases hs : 0 ≤ v
      all_goals
        go_wp2
        go_round
        case rel => exact ⟨v.tdiv 10, c + 1, HN.out, by first | rfl | (rw [quo_sign v (by omega)]), rfl, by go_num⟩
        case measure => have := quo_lt v hv; have := quo_sign v; simp only [intOf]; omega
end Go.Proofs.Ytkcmkilfhibpeaa
