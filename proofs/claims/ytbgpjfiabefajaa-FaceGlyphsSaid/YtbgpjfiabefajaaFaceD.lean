/- face: the document's own Column, Dot and sizes by contract; what the program's functions are to tell. -/
import Derived.Test.YtbgpjfiabefajaaFaceC
namespace Go.Proofs.Ytbgpjfiabefajaa
set_option linter.unusedSimpArgs false
set_option linter.unusedVariables false
set_option linter.unusedSectionVars false
open Go.RowKit

theorem boxZ_in {k i : Int} : 0 ≤ boxZ k i ∧ boxZ k i ≤ 263 := by
  have h8 := boxR_in k i 8 (by omega)
  have h0 := boxR_in k i 0 (by omega)
  have e8 : (2 : Int) ^ 8 = 256 := by decide
  have e0 : (2 : Int) ^ 0 = 1 := by decide
  rw [e8] at h8
  rw [e0] at h0
  unfold boxZ
  split <;> omega
theorem colZ_in {n i : Int} (hi : 0 ≤ i ∧ i ≤ 4) : 0 ≤ colZ n i ∧ colZ n i ≤ 383 := by
  unfold colZ
  split
  · rename_i h
    have := fcolZ_in h hi
    omega
  · split
    · rename_i h
      have hy := latin_in (i := n - 160) (by omega) (by omega)
      have := fcolZ_in hy hi
      split
      · split <;> omega
      · omega
    · split
      · have := boxZ_in (k := n - 9472) (i := i)
        omega
      · split <;> omega
theorem refCol_any (r i : Int) (w : World) (c : Int) (hc : colZ r i = c) (hb : -2147483648 ≤ r ∧ r ≤ 2147483647) (hi : 0 ≤ i ∧ i ≤ 4) : Calls Try.prog 40 #[.int .i32 r, .int .i64 i] w fun e w' => e = .returned (.int .i64 c) ∧ AnyLater w w' := by
  rcases hk : knownZ r
  · exact col_none r i w c hc hk hb hi
  · by_cases q1 : 32 ≤ r ∧ r ≤ 126
    · refine col_ascii r i w c ?_ q1 hi
      unfold colZ at hc
      rwa [if_pos q1] at hc
    · by_cases q2 : 160 ≤ r ∧ r ≤ 255
      · exact col_latin r i w c hc q2 hi
      · by_cases q3 : 9472 ≤ r ∧ r ≤ 9599
        · unfold colZ at hc
          rw [if_neg q1, if_neg q2, if_pos q3] at hc
          have e : (r - 9472) + 9472 = r := by omega
          have := col_box (r - 9472) i w c hc (by omega) hi
          rwa [e] at this
        · exfalso
          unfold knownZ at hk
          rw [decide_eq_false q1, decide_eq_false q2, decide_eq_false q3] at hk
          cases hk
/-! ### Dot -/
def dot0 (r x y : Int) : Bool := decide (0 ≤ x ∧ x < 5 ∧ 0 ≤ y ∧ y < 8) && bitZ (colZ r x) y.toNat
def dotZ (f r x y : Int) : Bool := decide (0 ≤ x ∧ 0 ≤ y) && (if f = 2 then dot0 r (x / 2) (y / 2) else if f = 1 then dot0 r x y || (decide (0 < x) && dot0 r (x - 1) y) else dot0 r x y)
theorem dot0_out {r x y : Int} (h : ¬ (0 ≤ x ∧ x < 5 ∧ 0 ≤ y ∧ y < 8)) : dot0 r x y = false := by
  unfold dot0; rw [decide_eq_false h]; rfl
set_option maxRecDepth 100000 in
set_option maxHeartbeats 1600000 in
theorem dot0_any (r x y : Int) (w : World) (c : Bool) (hc : dot0 r x y = c) (hb : -2147483648 ≤ r ∧ r ≤ 2147483647) (hx : I64 x) (hy : I64 y) : Calls Try.prog 50 #[.int .i64 0, .int .i32 r, .int .i64 x, .int .i64 y] w fun e w' => e = .returned (.bool c) ∧ AnyLater w w' := by
  obtain ⟨x1, x2⟩ := hx
  obtain ⟨y1, y2⟩ := hy
  have H0 : Hid (¬ (0 ≤ x ∧ x < 5 ∧ 0 ≤ y ∧ y < 8) → false = c) := Lib.hid (fun h => by rw [← hc, dot0_out h])
  by_cases q1 : x < 0
  · have HZ := Lib.hid (H0.out (by omega))
    clear hc H0
    go_enter Try.func50, Try.ntmps50
    go_wp2_with fail
    go_ret
    exact ⟨ret_bool HZ.out, AnyLater.refl _⟩
  by_cases q2 : y < 0
  · have HZ := Lib.hid (H0.out (by omega))
    clear hc H0
    go_enter Try.func50, Try.ntmps50
    go_wp2_with fail
    go_ret
    exact ⟨ret_bool HZ.out, AnyLater.refl _⟩
  by_cases q3 : x < 5
  · by_cases q4 : y < 8
    · obtain ⟨n, rfl⟩ : ∃ n : Nat, (n : Int) = y := ⟨y.toNat, by omega⟩
      have HD := Lib.hid (fun w => refCol_any r x w _ rfl hb ⟨by omega, by omega⟩)
      have cb := colZ_in (n := r) (i := x) ⟨by omega, by omega⟩
      have HZ : Hid (bitZ (colZ r x) n = c) := Lib.hid (by rw [← hc]; unfold dot0; rw [decide_eq_true ⟨by omega, by omega, by omega, by omega⟩, Bool.true_and]; rfl)
      generalize colZ r x = z at *
      clear hc H0
      go_enter Try.func50, Try.ntmps50
      go_wp2_with fail
      refine (HD.out _).mono ?_
      rintro e w1 ⟨rfl, b1⟩
      have HB := Lib.hid b1
      clear b1
      go_wp2_with fail
      go_ret
      exact ⟨ret_bool (by rw [← HZ.out]; rfl), HB.out⟩
    · have HZ := Lib.hid (H0.out (by omega))
      clear hc H0
      go_enter Try.func50, Try.ntmps50
      go_wp2_with fail
      go_ret
      exact ⟨ret_bool HZ.out, AnyLater.refl _⟩
  · have HZ := Lib.hid (H0.out (by omega))
    clear hc H0
    go_enter Try.func50, Try.ntmps50
    go_wp2_with fail
    go_ret
    exact ⟨ret_bool HZ.out, AnyLater.refl _⟩
set_option maxRecDepth 100000 in
set_option maxHeartbeats 1600000 in
theorem dot_any (f r x y : Int) (w : World) (c : Bool) (hc : dotZ f r x y = c) (hf : 0 ≤ f ∧ f ≤ 2) (hb : -2147483648 ≤ r ∧ r ≤ 2147483647) (hx : 0 ≤ x ∧ x ≤ 100) (hy : 0 ≤ y ∧ y ≤ 100) : Calls Try.prog 50 #[.int .i64 f, .int .i32 r, .int .i64 x, .int .i64 y] w fun e w' => e = .returned (.bool c) ∧ AnyLater w w' := by
  obtain ⟨x1, x2⟩ := hx
  obtain ⟨y1, y2⟩ := hy
  unfold dotZ at hc
  rw [decide_eq_true ⟨x1, y1⟩, Bool.true_and] at hc
  have hff : f = 0 ∨ f = 1 ∨ f = 2 := by omega
  rcases hff with rfl | rfl | rfl
  · rw [if_neg (by decide), if_neg (by decide)] at hc
    exact dot0_any r x y w c hc hb ⟨by omega, by omega⟩ ⟨by omega, by omega⟩
  · rw [if_neg (by decide), if_pos rfl] at hc
    have D1 := Lib.hid (fun w => dot0_any r x y w _ rfl hb ⟨by omega, by omega⟩ ⟨by omega, by omega⟩)
    have D2 := Lib.hid (fun w => dot0_any r (x - 1) y w _ rfl hb ⟨by omega, by omega⟩ ⟨by omega, by omega⟩)
    generalize dot0 r x y = a at *
    generalize dot0 r (x - 1) y = b at *
    have HC := Lib.hid hc
    clear hc
    rcases a
    · by_cases q : 0 < x
      · have HZ : Hid (b = c) := Lib.hid (by rw [← HC.out, decide_eq_true q]; rfl)
        go_enter Try.func50, Try.ntmps50
        go_wp2_with fail
        refine (D1.out _).mono ?_
        rintro e w1 ⟨rfl, b1⟩
        have HB := Lib.hid b1
        clear b1
        go_wp2_with fail
        refine (D2.out _).mono ?_
        rintro e w2 ⟨rfl, b2⟩
        have HB2 := Lib.hid (HB.out.trans b2)
        clear b2
        go_wp2_with fail
        go_ret
        exact ⟨ret_bool HZ.out, HB2.out⟩
      · have HZ : Hid (false = c) := Lib.hid (by rw [← HC.out, decide_eq_false q]; rfl)
        go_enter Try.func50, Try.ntmps50
        go_wp2_with fail
        refine (D1.out _).mono ?_
        rintro e w1 ⟨rfl, b1⟩
        have HB := Lib.hid b1
        clear b1
        go_wp2_with fail
        go_ret
        exact ⟨ret_bool HZ.out, HB.out⟩
    · have HZ : Hid (true = c) := Lib.hid (by rw [← HC.out]; rfl)
      go_enter Try.func50, Try.ntmps50
      go_wp2_with fail
      refine (D1.out _).mono ?_
      rintro e w1 ⟨rfl, b1⟩
      have HB := Lib.hid b1
      clear b1
      go_wp2_with fail
      go_ret
      exact ⟨ret_bool HZ.out, HB.out⟩
  · rw [if_pos rfl] at hc
    have D1 := Lib.hid (fun w => dot0_any r (x / 2) (y / 2) w c hc hb ⟨by omega, by omega⟩ ⟨by omega, by omega⟩)
    clear hc
    go_enter Try.func50, Try.ntmps50
    go_wp2_with fail
    refine (D1.out _).mono ?_
    rintro e w1 ⟨rfl, b1⟩
    have HB := Lib.hid b1
    clear b1
    go_wp2_with fail
    go_ret
    exact ⟨rfl, HB.out⟩
/-! ### sizes -/
def wideF (f : Int) : Int := if f = 2 then 12 else 6 + f
def highF (f : Int) : Int := if f = 2 then 16 else 8
def upF (f : Int) : Int := if f = 2 then 14 else 7
def downF (f : Int) : Int := if f = 2 then 3 else 2
theorem sizes_any (f : Int) (w : World) (hf : 0 ≤ f ∧ f ≤ 2) :
    (Calls Try.prog 46 #[.int .i64 f] w fun e w' => e = .returned (.int .i64 (wideF f)) ∧ w = w') ∧ (Calls Try.prog 47 #[.int .i64 f] w fun e w' => e = .returned (.int .i64 (highF f)) ∧ w = w') ∧
    (Calls Try.prog 48 #[.int .i64 f] w fun e w' => e = .returned (.int .i64 (upF f)) ∧ w = w') ∧ Calls Try.prog 49 #[.int .i64 f] w fun e w' => e = .returned (.int .i64 (downF f)) ∧ w = w' := by
  have hff : f = 0 ∨ f = 1 ∨ f = 2 := by omega
  refine ⟨?_, ?_, ?_, ?_⟩ <;> rcases hff with rfl | rfl | rfl
  iterate 3
    · go_enter Try.func46, Try.ntmps46
      go_wp2_with fail
      go_ret
      exact ⟨rfl, rfl⟩
  iterate 3
    · go_enter Try.func47, Try.ntmps47
      go_wp2_with fail
      go_ret
      exact ⟨rfl, rfl⟩
  iterate 3
    · go_enter Try.func48, Try.ntmps48
      go_wp2_with fail
      go_ret
      exact ⟨rfl, rfl⟩
  iterate 3
    · go_enter Try.func49, Try.ntmps49
      go_wp2_with fail
      go_ret
      exact ⟨rfl, rfl⟩
/-! ### what the program's functions are to tell -/
def colsZ (r : Int) : List Int := [colZ r 0, colZ r 1, colZ r 2, colZ r 3, colZ r 4]
structure FaceP (f r : Int) (g : GM) : Prop where
  ok : g.Ok
  yes : 0 ≤ f → f ≤ 2 → g.w = wideF f ∧ g.h = highF f ∧ goodG g = true ∧ ∀ x y : Int, hasB g x y = dotZ f r x y
  no : ¬ (0 ≤ f ∧ f ≤ 2) → noneG g
structure TSays : Prop where
  cols : ∀ {w : World} (r : Int), -2147483648 ≤ r ∧ r ≤ 2147483647 → Shows 39 #[.int .i32 r] w fun u w' => RY w' u (colsZ r)
  known : ∀ {w : World} (r : Int) (c : Bool), knownZ r = c → -2147483648 ≤ r ∧ r ≤ 2147483647 → Calls Try.prog 41 #[.int .i32 r] w fun e w' => e = .returned (.bool c) ∧ AnyLater w w'
  adv : ∀ {w : World} (f r : Int) (n : Int), (if 0 ≤ f ∧ f ≤ 2 then wideF f else 0) = n → I64 f → -2147483648 ≤ r ∧ r ≤ 2147483647 → Calls Try.prog 45 #[.int .i64 f, .int .i32 r] w fun e w' => e = .returned (.int .i64 n) ∧ AnyLater w w'
  met : ∀ {w : World} (f : Int), I64 f → Calls Try.prog 44 #[.int .i64 f] w fun e w' => e = .returned (if 0 ≤ f ∧ f ≤ 2 then .tuple #[.int .i64 (upF f), .int .i64 (downF f), .bool true] else .tuple #[.int .i64 0, .int .i64 0, .bool false]) ∧ AnyLater w w'
  glyph : ∀ {w : World} (f r : Int), I64 f → -2147483648 ≤ r ∧ r ≤ 2147483647 → Shows 43 #[.int .i64 f, .int .i32 r] w (IsP (FaceP f r))
end Go.Proofs.Ytbgpjfiabefajaa
