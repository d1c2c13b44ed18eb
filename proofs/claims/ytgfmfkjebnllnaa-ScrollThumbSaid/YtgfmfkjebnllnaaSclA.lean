/- scroll: what numbers are told (plain mathematics), and the small functions of the program and of the document by contract: a number brought between 0 and 2^30, how far a view may scroll, where it stands, pages on, what shows something, and Floor. Each leaves the world alone. -/
import Derived.Test.YtgfmfkjebnllnaaClc
import Derived.Test.YtgfmfkjebnllnaaLaw
import Derived.Lib.Hide
import Derived.Outline
namespace Go.Proofs.Ytgfmfkjebnllnaa
set_option linter.unusedSimpArgs false
set_option linter.unusedVariables false
set_option linter.unusedSectionVars false
open Go.RowKit

def inZ (n : Int) : Int := if n < 0 then 0 else if 1073741824 < n then 1073741824 else n
theorem inZ_in (n : Int) : 0 ≤ inZ n ∧ inZ n ≤ 1073741824 := by unfold inZ; split; omega; split <;> omega
theorem inZ_same {n : Int} (h : 0 ≤ n ∧ n ≤ 1073741824) : inZ n = n := by unfold inZ; rw [if_neg (by omega), if_neg (by omega)]
theorem inZ_twice (n : Int) : inZ (inZ n) = inZ n := inZ_same (inZ_in n)
theorem inZ_clc (n : Int) : clcClamp n 0 1073741824 = inZ n := by
  unfold clcClamp inZ
  by_cases h : n < 0
  · rw [if_pos (.inl h), if_pos h]
  · rw [if_neg (by omega), if_neg h]
/-- how far a view may scroll -/
def mostZ (t h : Int) : Int := if inZ t < inZ h then 0 else inZ t - inZ h
theorem mostZ_in (t h : Int) : 0 ≤ mostZ t h ∧ mostZ t h ≤ inZ t := by
  have := inZ_in t; have := inZ_in h
  unfold mostZ; split <;> omega
theorem mostZ_sub (t h : Int) : inZ (inZ t - inZ h) = mostZ t h := by
  have h1 := inZ_in t; have h2 := inZ_in h
  unfold mostZ
  split
  · show (if inZ t - inZ h < 0 then (0 : Int) else _) = 0
    rw [if_pos (by omega)]
  · exact inZ_same (by omega)
/-- where a view stands -/
def stZ (y t h : Int) : Int := if mostZ t h < inZ y then mostZ t h else inZ y
theorem stZ_in (y t h : Int) : 0 ≤ stZ y t h ∧ stZ y t h ≤ mostZ t h := by
  have h1 := inZ_in y; have h2 := mostZ_in t h
  unfold stZ; split <;> omega
theorem mostZ_twice (t h : Int) : mostZ (inZ t) (inZ h) = mostZ t h := by unfold mostZ; rw [inZ_twice, inZ_twice]
theorem stZ_twice (y t h : Int) : stZ y (inZ t) (inZ h) = stZ y t h := by unfold stZ; rw [mostZ_twice]
/-- so many pages on -/
def stepZ (h : Int) : Int := if inZ h - 9 < 1 then 1 else inZ h - 9
def pgZ (p : Int) : Int := clcClamp p (-1073741824) 1073741824
theorem pgZ_in (p : Int) : -1073741824 ≤ pgZ p ∧ pgZ p ≤ 1073741824 := by unfold pgZ clcClamp; split; omega; split <;> omega
theorem stepZ_in (h : Int) : 1 ≤ stepZ h ∧ stepZ h ≤ 1073741824 := by have := inZ_in h; unfold stepZ; split <;> omega
theorem prod_in {q s : Int} (h : -1073741824 ≤ q ∧ q ≤ 1073741824) (h2 : 0 ≤ s ∧ s ≤ 2147483648) : -2305843009213693952 ≤ q * s ∧ q * s ≤ 2305843009213693952 := by
  have k1 := Int.mul_le_mul_of_nonneg_right h.1 h2.1
  have k2 := Int.mul_le_mul_of_nonneg_right h.2 h2.1
  constructor <;> omega
def pageZ (y t h p : Int) : Int := stZ (inZ y + pgZ p * stepZ h) t h
/-- where a view stands that shows something: y, top, bottom and high are such numbers -/
def shZ (y a b h : Int) : Int := if a < y then a else if y + h < b then (if a < b - h then a else b - h) else y
def revZ (y a b t h : Int) : Int := stZ (shZ (inZ y) (inZ a) (inZ b) (inZ h)) t h

theorem ret_n {a b : Int} (h : a = b) : Ending.returned (.int .i64 a) = .returned (.int .i64 b) := by rw [h]

/-! ### the program -/
theorem sbound_any (n v : Int) (w : World) (hv : inZ n = v) : Calls Try.prog 20 #[.int .i64 n] w fun e w' => e = .returned (.int .i64 v) ∧ w = w' := by
  have HV := Lib.hid ((inZ_clc n).trans hv)
  clear hv
  go_enter Try.func20, Try.ntmps20
  go_wp2_with (go_at_call 21; refine (clcClamp_any _ _ _ _ _ HV.out).mono ?_; rintro e w' ⟨rfl, rfl⟩)
  go_ret
  exact ⟨rfl, rfl⟩
theorem smost_any (t h v : Int) (w : World) (hv : mostZ t h = v) : Calls Try.prog 7 #[.int .i64 t, .int .i64 h] w fun e w' => e = .returned (.int .i64 v) ∧ w = w' := by
  have hm := mostZ_sub t h
  rw [hv] at hm
  obtain ⟨a1, a2⟩ := inZ_in t
  obtain ⟨b1, b2⟩ := inZ_in h
  obtain ⟨a, ha⟩ : ∃ a, inZ t = a := ⟨_, rfl⟩
  obtain ⟨b, hb⟩ : ∃ b, inZ h = b := ⟨_, rfl⟩
  rw [ha, hb] at hm
  rw [ha] at a1 a2
  rw [hb] at b1 b2
  clear hv
  go_enter Try.func7, Try.ntmps7
  go_wp2_with (go_at_call 20; refine (sbound_any _ _ _ (by assumption)).mono ?_; rintro e w' ⟨rfl, rfl⟩)
  go_ret
  exact ⟨rfl, rfl⟩
theorem sclamp_any (y t h v : Int) (w : World) (hv : stZ y t h = v) : Calls Try.prog 9 #[.int .i64 y, .int .i64 t, .int .i64 h] w fun e w' => e = .returned (.int .i64 v) ∧ w = w' := by
  obtain ⟨a, ha⟩ : ∃ a, inZ y = a := ⟨_, rfl⟩
  obtain ⟨m, hm⟩ : ∃ m, mostZ t h = m := ⟨_, rfl⟩
  have Q : Hid ((m < a → m = v) ∧ (a ≤ m → a = v)) := Lib.hid (by
    unfold stZ at hv
    rw [ha, hm] at hv
    constructor
    · intro k; rw [if_pos k] at hv; exact hv
    · intro k; rw [if_neg (by omega)] at hv; exact hv)
  clear hv
  go_enter Try.func9, Try.ntmps9
  go_wp2_with (first | (go_at_call 20; refine (sbound_any _ _ _ (by assumption)).mono ?_; rintro e w' ⟨rfl, rfl⟩) | (go_at_call 7; refine (smost_any _ _ _ _ (by assumption)).mono ?_; rintro e w' ⟨rfl, rfl⟩))
  all_goals
    go_ret
    exact ⟨ret_n (by have := Q.out; omega), rfl⟩
theorem sreveal_any (y a b t h v : Int) (w : World) (hv : revZ y a b t h = v) : Calls Try.prog 17 #[.int .i64 y, .int .i64 a, .int .i64 b, .int .i64 t, .int .i64 h] w fun e w' => e = .returned (.int .i64 v) ∧ w = w' := by
  obtain ⟨y1, y2⟩ := inZ_in y
  obtain ⟨a1, a2⟩ := inZ_in a
  obtain ⟨b1, b2⟩ := inZ_in b
  obtain ⟨h1, h2⟩ := inZ_in h
  unfold revZ at hv
  obtain ⟨Y, hY⟩ : ∃ z, inZ y = z := ⟨_, rfl⟩
  obtain ⟨A, hA⟩ : ∃ z, inZ a = z := ⟨_, rfl⟩
  obtain ⟨B, hB⟩ : ∃ z, inZ b = z := ⟨_, rfl⟩
  obtain ⟨H, hH⟩ : ∃ z, inZ h = z := ⟨_, rfl⟩
  rw [hY, hA, hB, hH] at hv
  rw [hY] at y1 y2
  rw [hA] at a1 a2
  rw [hB] at b1 b2
  rw [hH] at h1 h2
  by_cases k1 : A < Y
  · have e : shZ Y A B H = A := by unfold shZ; rw [if_pos k1]
    rw [e] at hv
    clear e
    go_enter Try.func17, Try.ntmps17
    go_wp2_with (first | (go_at_call 20; refine (sbound_any _ _ _ (by assumption)).mono ?_; rintro e w' ⟨rfl, rfl⟩) | (go_at_call 9; refine (sclamp_any _ _ _ _ _ (by assumption)).mono ?_; rintro e w' ⟨rfl, rfl⟩))
    go_ret
    exact ⟨rfl, rfl⟩
  · by_cases k2 : Y < B - H
    · by_cases k3 : A < B - H
      · have e : shZ Y A B H = A := by unfold shZ; rw [if_neg k1, if_pos (by omega), if_pos k3]
        rw [e] at hv
        clear e
        go_enter Try.func17, Try.ntmps17
        go_wp2_with (first | (go_at_call 20; refine (sbound_any _ _ _ (by assumption)).mono ?_; rintro e w' ⟨rfl, rfl⟩) | (go_at_call 9; refine (sclamp_any _ _ _ _ _ (by assumption)).mono ?_; rintro e w' ⟨rfl, rfl⟩))
        go_ret
        exact ⟨rfl, rfl⟩
      · have e : shZ Y A B H = B - H := by unfold shZ; rw [if_neg k1, if_pos (by omega), if_neg k3]
        rw [e] at hv
        clear e
        go_enter Try.func17, Try.ntmps17
        go_wp2_with (first | (go_at_call 20; refine (sbound_any _ _ _ (by assumption)).mono ?_; rintro e w' ⟨rfl, rfl⟩) | (go_at_call 9; refine (sclamp_any _ _ _ _ _ (by assumption)).mono ?_; rintro e w' ⟨rfl, rfl⟩))
        go_ret
        exact ⟨rfl, rfl⟩
    · have e : shZ Y A B H = Y := by unfold shZ; rw [if_neg k1, if_neg (by omega)]
      rw [e] at hv
      clear e
      go_enter Try.func17, Try.ntmps17
      go_wp2_with (first | (go_at_call 20; refine (sbound_any _ _ _ (by assumption)).mono ?_; rintro e w' ⟨rfl, rfl⟩) | (go_at_call 9; refine (sclamp_any _ _ _ _ _ (by assumption)).mono ?_; rintro e w' ⟨rfl, rfl⟩))
      go_ret
      exact ⟨rfl, rfl⟩
theorem spage_any (y t h p v : Int) (w : World) (hv : pageZ y t h p = v) : Calls Try.prog 11 #[.int .i64 y, .int .i64 t, .int .i64 h, .int .i64 p] w fun e w' => e = .returned (.int .i64 v) ∧ w = w' := by
  obtain ⟨y1, y2⟩ := inZ_in y
  obtain ⟨h1, h2⟩ := inZ_in h
  obtain ⟨p1, p2⟩ := prod_in (s := stepZ h) (pgZ_in p) ⟨by have := stepZ_in h; omega, by have := stepZ_in h; omega⟩
  unfold pageZ at hv
  obtain ⟨Y, hY⟩ : ∃ z, inZ y = z := ⟨_, rfl⟩
  obtain ⟨q, hq⟩ : ∃ z, pgZ p = z := ⟨_, rfl⟩
  have hs : ∀ H, inZ h = H → stepZ h = if H - 9 < 1 then 1 else H - 9 := fun H e => by unfold stepZ; rw [e]
  obtain ⟨H, hH⟩ : ∃ z, inZ h = z := ⟨_, rfl⟩
  have hs := hs H hH
  rw [hY, hq] at hv
  rw [hY] at y1 y2
  rw [hH] at h1 h2
  rw [hq] at p1 p2
  unfold pgZ at hq
  by_cases k : H - 9 < 1
  · rw [if_pos k] at hs
    rw [hs] at hv p1 p2
    rw [Int.mul_one] at hv p1 p2
    clear hs
    go_enter Try.func11, Try.ntmps11
    go_wp2_with (first | (go_at_call 20; refine (sbound_any _ _ _ (by assumption)).mono ?_; rintro e w' ⟨rfl, rfl⟩) | (go_at_call 21; refine (clcClamp_any _ _ _ _ _ (by assumption)).mono ?_; rintro e w' ⟨rfl, rfl⟩) | (go_at_call 9; refine (sclamp_any _ _ _ _ _ (by assumption)).mono ?_; rintro e w' ⟨rfl, rfl⟩))
    go_ret
    exact ⟨rfl, rfl⟩
  · rw [if_neg k] at hs
    rw [hs] at hv p1 p2
    clear hs
    obtain ⟨u, hu⟩ : ∃ u, q * (H - 9) = u := ⟨_, rfl⟩
    rw [hu] at hv p1 p2
    go_enter Try.func11, Try.ntmps11
    go_wp2_with (first | (go_at_call 20; refine (sbound_any _ _ _ (by assumption)).mono ?_; rintro e w' ⟨rfl, rfl⟩) | (go_at_call 21; refine (clcClamp_any _ _ _ _ _ (by assumption)).mono ?_; rintro e w' ⟨rfl, rfl⟩) | (go_at_call 9; refine (sclamp_any _ _ _ _ _ (by assumption)).mono ?_; rintro e w' ⟨rfl, rfl⟩))
    all_goals
      go_ret
      exact ⟨rfl, rfl⟩
theorem sfloor_any (n d v : Int) (w : World) (hn : 0 ≤ n ∧ n ≤ 9223372036854775807) (hd : 0 < d) (hv : n / d = v) : Calls Try.prog 24 #[.int .i64 n, .int .i64 d] w fun e w' => e = .returned (.int .i64 v) ∧ w = w' := by
  obtain ⟨n1, n2⟩ := hn
  have q1 : 0 ≤ n / d := Int.ediv_nonneg n1 (by omega)
  have q2 : n / d ≤ n := Int.ediv_le_self _ n1
  have r1 := Int.emod_nonneg n (show d ≠ 0 by omega)
  have HV := Lib.hid hv
  clear hv
  go_enter Try.func24, Try.ntmps24
  go_wp2
  go_ret
  exact ⟨ret_n HV.out, rfl⟩

/-! ### the document -/
theorem rin_any (n v : Int) (w : World) (hv : inZ n = v) : Calls Try.prog 14 #[.int .i64 n] w fun e w' => e = .returned (.int .i64 v) ∧ w = w' := by
  unfold inZ at hv
  by_cases h1 : n < 0
  · rw [if_pos h1] at hv
    subst hv
    go_enter Try.func14, Try.ntmps14
    go_wp2
    go_ret
    exact ⟨rfl, rfl⟩
  · by_cases h2 : 1073741824 < n
    · rw [if_neg h1, if_pos h2] at hv
      subst hv
      go_enter Try.func14, Try.ntmps14
      go_wp2
      go_ret
      exact ⟨rfl, rfl⟩
    · rw [if_neg h1, if_neg h2] at hv
      subst hv
      go_enter Try.func14, Try.ntmps14
      go_wp2
      go_ret
      exact ⟨rfl, rfl⟩
theorem rmost_any (t h v : Int) (w : World) (hv : mostZ t h = v) : Calls Try.prog 8 #[.int .i64 t, .int .i64 h] w fun e w' => e = .returned (.int .i64 v) ∧ w = w' := by
  unfold mostZ at hv
  obtain ⟨a1, a2⟩ := inZ_in t
  obtain ⟨b1, b2⟩ := inZ_in h
  obtain ⟨a, ha⟩ : ∃ a, inZ t = a := ⟨_, rfl⟩
  obtain ⟨b, hb⟩ : ∃ b, inZ h = b := ⟨_, rfl⟩
  rw [ha, hb] at hv
  rw [ha] at a1 a2
  rw [hb] at b1 b2
  by_cases k : a < b
  · rw [if_pos k] at hv
    subst hv
    go_enter Try.func8, Try.ntmps8
    go_wp2_with (go_at_call 14; refine (rin_any _ _ _ (by assumption)).mono ?_; rintro e w' ⟨rfl, rfl⟩)
    go_ret
    exact ⟨rfl, rfl⟩
  · rw [if_neg k] at hv
    have HV := Lib.hid hv
    clear hv
    go_enter Try.func8, Try.ntmps8
    go_wp2_with (go_at_call 14; refine (rin_any _ _ _ (by assumption)).mono ?_; rintro e w' ⟨rfl, rfl⟩)
    go_ret
    exact ⟨ret_n HV.out, rfl⟩
theorem rclamp_any (y t h v : Int) (w : World) (hv : stZ y t h = v) : Calls Try.prog 10 #[.int .i64 y, .int .i64 t, .int .i64 h] w fun e w' => e = .returned (.int .i64 v) ∧ w = w' := by
  obtain ⟨a, ha⟩ : ∃ a, inZ y = a := ⟨_, rfl⟩
  obtain ⟨m, hm⟩ : ∃ m, mostZ t h = m := ⟨_, rfl⟩
  unfold stZ at hv
  rw [ha, hm] at hv
  by_cases k : m < a
  · rw [if_pos k] at hv
    subst hv
    go_enter Try.func10, Try.ntmps10
    go_wp2_with (first | (go_at_call 14; refine (rin_any _ _ _ (by assumption)).mono ?_; rintro e w' ⟨rfl, rfl⟩) | (go_at_call 8; refine (rmost_any _ _ _ _ (by assumption)).mono ?_; rintro e w' ⟨rfl, rfl⟩))
    go_ret
    exact ⟨rfl, rfl⟩
  · rw [if_neg k] at hv
    subst hv
    go_enter Try.func10, Try.ntmps10
    go_wp2_with (first | (go_at_call 14; refine (rin_any _ _ _ (by assumption)).mono ?_; rintro e w' ⟨rfl, rfl⟩) | (go_at_call 8; refine (rmost_any _ _ _ _ (by assumption)).mono ?_; rintro e w' ⟨rfl, rfl⟩))
    go_ret
    exact ⟨rfl, rfl⟩
theorem rreveal_any (y a b t h v : Int) (w : World) (hv : revZ y a b t h = v) : Calls Try.prog 18 #[.int .i64 y, .int .i64 a, .int .i64 b, .int .i64 t, .int .i64 h] w fun e w' => e = .returned (.int .i64 v) ∧ w = w' := by
  obtain ⟨y1, y2⟩ := inZ_in y
  obtain ⟨a1, a2⟩ := inZ_in a
  obtain ⟨b1, b2⟩ := inZ_in b
  obtain ⟨h1, h2⟩ := inZ_in h
  unfold revZ at hv
  obtain ⟨Y, hY⟩ : ∃ z, inZ y = z := ⟨_, rfl⟩
  obtain ⟨A, hA⟩ : ∃ z, inZ a = z := ⟨_, rfl⟩
  obtain ⟨B, hB⟩ : ∃ z, inZ b = z := ⟨_, rfl⟩
  obtain ⟨H, hH⟩ : ∃ z, inZ h = z := ⟨_, rfl⟩
  rw [hY, hA, hB, hH] at hv
  rw [hY] at y1 y2
  rw [hA] at a1 a2
  rw [hB] at b1 b2
  rw [hH] at h1 h2
  by_cases k1 : A < Y
  · have e : shZ Y A B H = A := by unfold shZ; rw [if_pos k1]
    rw [e] at hv
    clear e
    go_enter Try.func18, Try.ntmps18
    go_wp2_with (first | (go_at_call 14; refine (rin_any _ _ _ (by assumption)).mono ?_; rintro e w' ⟨rfl, rfl⟩) | (go_at_call 10; refine (rclamp_any _ _ _ _ _ (by assumption)).mono ?_; rintro e w' ⟨rfl, rfl⟩))
    go_ret
    exact ⟨rfl, rfl⟩
  · by_cases k2 : Y + H < B
    · by_cases k3 : A < B - H
      · have e : shZ Y A B H = A := by unfold shZ; rw [if_neg k1, if_pos (by omega), if_pos k3]
        rw [e] at hv
        clear e
        go_enter Try.func18, Try.ntmps18
        go_wp2_with (first | (go_at_call 14; refine (rin_any _ _ _ (by assumption)).mono ?_; rintro e w' ⟨rfl, rfl⟩) | (go_at_call 10; refine (rclamp_any _ _ _ _ _ (by assumption)).mono ?_; rintro e w' ⟨rfl, rfl⟩))
        go_ret
        exact ⟨rfl, rfl⟩
      · have e : shZ Y A B H = B - H := by unfold shZ; rw [if_neg k1, if_pos (by omega), if_neg k3]
        rw [e] at hv
        clear e
        go_enter Try.func18, Try.ntmps18
        go_wp2_with (first | (go_at_call 14; refine (rin_any _ _ _ (by assumption)).mono ?_; rintro e w' ⟨rfl, rfl⟩) | (go_at_call 10; refine (rclamp_any _ _ _ _ _ (by assumption)).mono ?_; rintro e w' ⟨rfl, rfl⟩))
        go_ret
        exact ⟨rfl, rfl⟩
    · have e : shZ Y A B H = Y := by unfold shZ; rw [if_neg k1, if_neg (by omega)]
      rw [e] at hv
      clear e
      go_enter Try.func18, Try.ntmps18
      go_wp2_with (first | (go_at_call 14; refine (rin_any _ _ _ (by assumption)).mono ?_; rintro e w' ⟨rfl, rfl⟩) | (go_at_call 10; refine (rclamp_any _ _ _ _ _ (by assumption)).mono ?_; rintro e w' ⟨rfl, rfl⟩))
      go_ret
      exact ⟨rfl, rfl⟩
theorem rpage_any (y t h p v : Int) (w : World) (hp : -9223372036854775808 ≤ p ∧ p ≤ 9223372036854775807) (hv : pageZ y t h p = v) : Calls Try.prog 12 #[.int .i64 y, .int .i64 t, .int .i64 h, .int .i64 p] w fun e w' => e = .returned (.int .i64 v) ∧ w = w' := by
  obtain ⟨y1, y2⟩ := inZ_in y
  obtain ⟨h1, h2⟩ := inZ_in h
  obtain ⟨p1, p2⟩ := prod_in (s := stepZ h) (pgZ_in p) ⟨by have := stepZ_in h; omega, by have := stepZ_in h; omega⟩
  unfold pageZ at hv
  rw [Int.mul_comm] at hv p1 p2
  obtain ⟨Y, hY⟩ : ∃ z, inZ y = z := ⟨_, rfl⟩
  have hs : ∀ H, inZ h = H → stepZ h = if H - 9 < 1 then 1 else H - 9 := fun H e => by unfold stepZ; rw [e]
  obtain ⟨H, hH⟩ : ∃ z, inZ h = z := ⟨_, rfl⟩
  have hs := hs H hH
  have hg : (p < -1073741824 ∧ pgZ p = -1073741824) ∨ (1073741824 < p ∧ pgZ p = 1073741824) ∨ (-1073741824 ≤ p ∧ p ≤ 1073741824 ∧ pgZ p = p) := by unfold pgZ clcClamp; split; omega; split <;> omega
  rw [hY] at hv
  rw [hY] at y1 y2
  rw [hH] at h1 h2
  by_cases k : H - 9 < 1
  all_goals
    first | rw [if_pos k] at hs | rw [if_neg k] at hs
    rw [hs] at hv p1 p2
    clear hs
    (try rw [Int.one_mul] at hv p1 p2)
    rcases hg with ⟨g1, g2⟩ | ⟨g1, g2⟩ | ⟨g1, g3, g2⟩
    all_goals
      rw [g2] at hv p1 p2
      clear g2
      go_enter Try.func12, Try.ntmps12
      go_wp2_with (first | (go_at_call 14; refine (rin_any _ _ _ (by assumption)).mono ?_; rintro e w' ⟨rfl, rfl⟩) | (go_at_call 10; refine (rclamp_any _ _ _ _ _ (by assumption)).mono ?_; rintro e w' ⟨rfl, rfl⟩))
      go_ret
      exact ⟨rfl, rfl⟩
end Go.Proofs.Ytgfmfkjebnllnaa
