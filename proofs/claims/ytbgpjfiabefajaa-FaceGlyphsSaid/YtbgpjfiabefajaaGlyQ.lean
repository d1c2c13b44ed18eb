/- glyph: the program's own small functions, by contract: sides, places, good, bits, and how many. -/
import Derived.Test.YtbgpjfiabefajaaGlyP
import Derived.BigGuardPart
namespace Go.Proofs.Ytbgpjfiabefajaa
set_option linter.unusedSimpArgs false
set_option linter.unusedVariables false
set_option linter.unusedSectionVars false
open Go.RowKit

theorem glSide_any (n : Int) (w : World) (c : Bool) (hc : decide (0 ≤ n ∧ n ≤ 32) = c) (hn : I64 n) :
    Calls Try.prog 62 #[.int .i64 n] w fun e w' => e = .returned (.bool c) ∧ w = w' := by
  have H := Lib.hid hc
  clear hc
  by_cases h1 : 0 ≤ n
  · go_enter Try.func62, Try.ntmps62
    go_wp2
    go_ret
    exact ⟨ret_bool (by rw [← H.out]; rw [Bool.eq_iff_iff]; simp; try omega), rfl⟩
  · go_enter Try.func62, Try.ntmps62
    go_wp2
    go_ret
    exact ⟨ret_bool (by rw [← H.out]; simp; try omega), rfl⟩
theorem glPlace_any (n : Int) (w : World) (c : Bool) (hc : decide (-1048576 ≤ n ∧ n ≤ 1048576) = c) (hn : I64 n) :
    Calls Try.prog 66 #[.int .i64 n] w fun e w' => e = .returned (.bool c) ∧ w = w' := by
  have H := Lib.hid hc
  clear hc
  by_cases h1 : -1048576 ≤ n
  · go_enter Try.func66, Try.ntmps66
    go_wp2
    go_ret
    exact ⟨ret_bool (by rw [← H.out]; rw [Bool.eq_iff_iff]; simp; try omega), rfl⟩
  · go_enter Try.func66, Try.ntmps66
    go_wp2
    go_ret
    exact ⟨ret_bool (by rw [← H.out]; simp; try omega), rfl⟩

/-! ### has -/
theorem and_one {r : Int} (h0 : 0 ≤ r) (h1 : r ≤ 4294967295) (i : Nat) : bits .and .u32 (r / 2 ^ i) 1 = if bitZ r i = true then 1 else 0 := by
  obtain ⟨n, rfl⟩ := Int.eq_ofNat_of_zero_le h0
  rw [bitZ_emod (by omega)]
  have hp : ((2 : Int) ^ i) = ((2 ^ i : Nat) : Int) := by simp
  rw [hp, ← Int.natCast_ediv]
  have hl : n / 2 ^ i ≤ n := Nat.div_le_self _ _
  generalize n / 2 ^ i = k at *
  have : bits .and .u32 (k : Int) 1 = ((k % 2 : Nat) : Int) := by go_bits2
  rw [this]
  split
  · rename_i h; have := of_decide_eq_true h; omega
  · rename_i h; have := of_decide_eq_false (Bool.eq_false_iff.2 h); omega
set_option maxRecDepth 100000 in
set_option maxHeartbeats 1600000 in
theorem has_any0 (g : GM) (v : Value) (x y : Int) (w : World) (c : Bool) (hc : hasB g x y = c) (hv : IsG g v w) (hok : g.Ok) (hg : goodG g = true) (hx : I64 x) (hy : I64 y) :
    Calls Try.prog 63 #[v, .int .i64 x, .int .i64 y] w fun e w' => e = .returned (.bool c) ∧ AnyLater w w' := by
  obtain ⟨s, rfl, A, cap, rfl, h2, h3⟩ := hv
  obtain ⟨i1, i2, i3, i4, i5, -⟩ := goodG_in hg
  obtain ⟨W, H, rows⟩ := g
  obtain ⟨⟨w1, w2⟩, ⟨k1, k2⟩, hr⟩ := hok
  simp only at i1 i2 i3 i4 i5 w1 w2 k1 k2 h2 h3 hr
  obtain rfl := i5
  obtain ⟨x1, x2⟩ := hx
  obtain ⟨y1, y2⟩ := hy
  have HL := Lib.hid ((AnyLater.refl w).alloc (.cells #[.int .i64 W, .int .i64 (rows.length : Int), .slice A rows.length cap] 51))
  have H0 : Hid (¬ (0 ≤ x ∧ x < W ∧ 0 ≤ y ∧ y < (rows.length : Int)) → false = c) := Lib.hid (fun h => by rw [← hc, hasB_out h])
  have HR := Lib.hid hr
  by_cases q1 : 0 ≤ x
  · by_cases q2 : x < W
    · by_cases q3 : 0 ≤ y
      · by_cases q4 : y < (rows.length : Int)
        · obtain ⟨i, rfl⟩ : ∃ i : Nat, (i : Int) = x := ⟨x.toNat, by omega⟩
          obtain ⟨j, rfl⟩ : ∃ j : Nat, (j : Int) = y := ⟨y.toNat, by omega⟩
          have lj : j < rows.length := by omega
          obtain ⟨b, off, rfl, hb, hcl⟩ := h3 (by omega)
          have hcc := hcl j lj
          have hcv : Hid (bitZ rows[j] i = c) := Lib.hid (by rw [← hc]; exact (hasB_in (g := ⟨W, _, rows⟩) q2 lj).symm)
          obtain ⟨r1, r2⟩ := hr rows[j] (List.getElem_mem lj)
          have ha := and_one r1 r2 i
          clear hc h3 hcl hr hg
          generalize rows[j] = r at *
          generalize rows.length = n at *
          rcases hbit : bitZ r i
          all_goals
            rw [hbit] at ha
            simp only [if_true, Bool.false_eq_true, if_false] at ha
            have HB := Lib.hid hbit
            clear hbit
            go_enter Try.func63, Try.ntmps63
            go_wp2_with fail
            go_ret
            exact ⟨ret_bool (by rw [← hcv.out, HB.out]), HL.out⟩
        · have HZ := Lib.hid (H0.out (by omega))
          clear hc h3 hr H0 hg
          generalize rows.length = n at *
          go_enter Try.func63, Try.ntmps63
          go_wp2_with fail
          go_ret
          exact ⟨ret_bool HZ.out, HL.out⟩
      · have HZ := Lib.hid (H0.out (by omega))
        clear hc h3 hr H0 hg
        generalize rows.length = n at *
        go_enter Try.func63, Try.ntmps63
        go_wp2_with fail
        go_ret
        exact ⟨ret_bool HZ.out, HL.out⟩
    · have HZ := Lib.hid (H0.out (by omega))
      clear hc h3 hr H0 hg
      generalize rows.length = n at *
      go_enter Try.func63, Try.ntmps63
      go_wp2_with fail
      go_ret
      exact ⟨ret_bool HZ.out, HL.out⟩
  · have HZ := Lib.hid (H0.out (by omega))
    clear hc h3 hr H0 hg
    generalize rows.length = n at *
    go_enter Try.func63, Try.ntmps63
    go_wp2_with fail
    go_ret
    exact ⟨ret_bool HZ.out, HL.out⟩
end Go.Proofs.Ytbgpjfiabefajaa
