/- utf: the program's small functions, and the library's count of leading zeros: by contract. -/
import Derived.Test.YtimplngemjdodaaDoorUtfC
import Derived.Test.YtimplngemjdodaaDoorInts
import Derived.Laws.BitsAll
import Derived.Deep.LoopGhost
import Derived.Deep.DeepCutAuto
import Derived.Deep.CutBlock
namespace Go.Proofs.YtimplngemjdodaaDoor
set_option linter.unusedSimpArgs false
set_option linter.unusedVariables false
set_option linter.unusedSectionVars false
open Go.RowKit

/-! ### isTail, cut, join, size -/
theorem tl_nat (n : Nat) (hn : n ≤ 255) : (((n / 64 * 64 : Nat) : Int) == 128) = tl (n : Int) := by
  unfold tl
  rw [Bool.eq_iff_iff, beq_iff_eq, decide_eq_true_eq]
  omega
set_option maxRecDepth 100000 in
theorem isTail_any (x : Int) (w : World) (c : Bool) (hc : tl x = c) (hx : 0 ≤ x ∧ x ≤ 255) : Calls Tryd.prog 51 #[.int .u8 x] w fun e w' => e = .returned (.bool c) ∧ w = w' := by
  obtain ⟨n, rfl⟩ := Int.eq_ofNat_of_zero_le hx.1
  have hn : n ≤ 255 := by omega
  have h1 : bits .andNot .u8 (n : Int) 63 = ((n / 64 * 64 : Nat) : Int) := by go_bits2
  have h2 := tl_nat n hn
  rw [hc] at h2
  go_enter Tryd.func51, Tryd.ntmps51
  go_wp2_with fail
  go_ret
  exact ⟨ret_bool h2, rfl⟩
def sizeZ (r : Int) : Int := if ¬ (0 ≤ r ∧ r ≤ 1114111 ∧ ¬ (55296 ≤ r ∧ r ≤ 57343)) then 0 else if r < 128 then 1 else if r < 2048 then 2 else if r < 65536 then 3 else 4
def joinZ (r x : Int) : Int := if r < 0 ∨ tl x = false then -1 else r * 64 + (x - 128)
theorem sizeZ_len {r : Int} (h : goodR r = true) : sizeZ r = ((encN r).length : Int) := by
  have := goodR_in h
  unfold sizeZ encN
  rw [if_neg (by simpa using this)]
  split
  · rfl
  · split
    · rfl
    · split <;> rfl
theorem sizeZ_none {r : Int} (h : goodR r = false) : sizeZ r = 0 := if_pos (of_decide_eq_false h)
theorem sizeZ_in (r : Int) : 0 ≤ sizeZ r ∧ sizeZ r ≤ 4 := by
  unfold sizeZ
  split
  · omega
  · split
    · omega
    · split
      · omega
      · split <;> omega
theorem joinZ_in {r x : Int} (hr : r ≤ 262144) (hx : x ≤ 255) : -1 ≤ joinZ r x ∧ joinZ r x ≤ 16777343 := by
  unfold joinZ
  split
  · omega
  · rename_i h
    have : tl x = true := by simpa using (not_or.1 h).2
    have := of_decide_eq_true this
    have := (not_or.1 h).1
    omega
set_option maxRecDepth 100000 in
set_option maxHeartbeats 1600000 in
theorem size_any (r : Int) (w : World) (c : Int) (hc : sizeZ r = c) (hr : -2147483648 ≤ r ∧ r ≤ 2147483647) : Calls Tryd.prog 42 #[.int .i32 r] w fun e w' => e = .returned (.int .i64 c) ∧ w = w' := by
  obtain ⟨h1, h2⟩ := hr
  unfold sizeZ at hc
  by_cases q1 : r < 0
  · rw [if_pos (by omega)] at hc
    have HC := Lib.hid hc
    clear hc
    go_enter Tryd.func42, Tryd.ntmps42
    go_wp2_with fail
    go_ret
    exact ⟨ret_int HC.out, rfl⟩
  by_cases q2 : r > 1114111
  · rw [if_pos (by omega)] at hc
    have HC := Lib.hid hc
    clear hc
    go_enter Tryd.func42, Tryd.ntmps42
    go_wp2_with fail
    go_ret
    exact ⟨ret_int HC.out, rfl⟩
  by_cases q3 : 55296 ≤ r
  · by_cases q4 : r ≤ 57343
    · rw [if_pos (by omega)] at hc
      have HC := Lib.hid hc
      clear hc
      go_enter Tryd.func42, Tryd.ntmps42
      go_wp2_with fail
      go_ret
      exact ⟨ret_int HC.out, rfl⟩
    rw [if_neg (by omega), if_neg (by omega), if_neg (by omega)] at hc
    by_cases q5 : r < 65536
    · rw [if_pos (by omega)] at hc
      have HC := Lib.hid hc
      clear hc
      go_enter Tryd.func42, Tryd.ntmps42
      go_wp2_with fail
      go_ret
      exact ⟨ret_int HC.out, rfl⟩
    · rw [if_neg (by omega)] at hc
      have HC := Lib.hid hc
      clear hc
      go_enter Tryd.func42, Tryd.ntmps42
      go_wp2_with fail
      go_ret
      exact ⟨ret_int HC.out, rfl⟩
  rw [if_neg (by omega)] at hc
  by_cases q6 : r < 128
  · rw [if_pos (by omega)] at hc
    have HC := Lib.hid hc
    clear hc
    go_enter Tryd.func42, Tryd.ntmps42
    go_wp2_with fail
    go_ret
    exact ⟨ret_int HC.out, rfl⟩
  rw [if_neg (by omega)] at hc
  by_cases q7 : r < 2048
  · rw [if_pos (by omega)] at hc
    have HC := Lib.hid hc
    clear hc
    go_enter Tryd.func42, Tryd.ntmps42
    go_wp2_with fail
    go_ret
    exact ⟨ret_int HC.out, rfl⟩
  · rw [if_neg (by omega), if_pos (by omega)] at hc
    have HC := Lib.hid hc
    clear hc
    go_enter Tryd.func42, Tryd.ntmps42
    go_wp2_with fail
    go_ret
    exact ⟨ret_int HC.out, rfl⟩
theorem i32_and63 {x : Int} (h0 : 0 ≤ x) (h1 : x < 2147483648) : bits .and .i32 x 63 = x % 64 := bits_mask .i32 31 (by decide) wraps_i32 6 (by decide) x h0 h1
set_option maxRecDepth 100000 in
set_option maxHeartbeats 1600000 in
theorem ujoin_any (r x : Int) (w : World) (c : Int) (hc : joinZ r x = c) (hr : -1 ≤ r ∧ r ≤ 262144) (hx : 0 ≤ x ∧ x ≤ 255) : Calls Tryd.prog 41 #[.int .i32 r, .int .u8 x] w fun e w' => e = .returned (.int .i32 c) ∧ w = w' := by
  obtain ⟨r1, r2⟩ := hr
  have HX := Lib.hid hx
  obtain ⟨x1, x2⟩ := hx
  unfold joinZ at hc
  by_cases q : r < 0
  · rw [if_pos (.inl q)] at hc
    have HC := Lib.hid hc
    clear hc
    go_enter Tryd.func41, Tryd.ntmps41
    go_wp2_with fail
    go_ret
    exact ⟨ret_int HC.out, rfl⟩
  · rcases ht : tl x
    · rw [if_pos (.inr ht)] at hc
      have HC := Lib.hid hc
      have H1 := Lib.hid (fun w => isTail_any x w false ht HX.out)
      clear hc ht
      go_enter Tryd.func41, Tryd.ntmps41
      go_wp2_with (go_at_call 51; refine (H1.out _).mono ?_; rintro e w' ⟨rfl, rfl⟩)
      go_ret
      exact ⟨ret_int HC.out, rfl⟩
    · rw [if_neg (by rw [ht]; simpa using q)] at hc
      have H1 := Lib.hid (fun w => isTail_any x w true ht HX.out)
      have hb : 128 ≤ x ∧ x ≤ 191 := of_decide_eq_true ht
      have h1 : bits .and .u8 x 63 = x % 64 := u8_and63 x (by omega) (by omega)
      have h2 : bits .or .i32 (r * 64) (x % 64) = r * 64 + x % 64 := i32_or6 _ _ (by omega) (by omega) (by omega) (by omega) (by omega)
      have HC : Hid (r * 64 + x % 64 = c) := Lib.hid (by omega)
      clear hc ht
      go_enter Tryd.func41, Tryd.ntmps41
      go_wp2_with (go_at_call 51; refine (H1.out _).mono ?_; rintro e w' ⟨rfl, rfl⟩)
      go_ret
      exact ⟨ret_int HC.out, rfl⟩

/-! ### leading zeros; told -/
def len8Z (i : Int) : Int := if i < 1 then 0 else if i < 2 then 1 else if i < 4 then 2 else if i < 8 then 3 else if i < 16 then 4 else if i < 32 then 5 else if i < 64 then 6 else if i < 128 then 7 else 8
def toldZ (a : Int) : Int := if a < 128 then 1 else if a < 192 then 0 else if a < 224 then 2 else if a < 240 then 3 else if a < 248 then 4 else 0
set_option maxRecDepth 1000000 in
theorem len_get : ∀ j : Fin 256, ((({ data := ([0, 1, 2, 2, 3, 3, 3, 3, 4, 4, 4, 4, 4, 4, 4, 4, 5, 5, 5, 5, 5, 5, 5, 5, 5, 5, 5, 5, 5, 5, 5, 5, 6, 6, 6, 6, 6, 6, 6, 6, 6, 6, 6, 6, 6, 6, 6, 6, 6, 6, 6, 6, 6, 6, 6, 6, 6, 6, 6, 6, 6, 6, 6, 6, 7, 7, 7, 7, 7, 7, 7, 7, 7, 7, 7, 7, 7, 7, 7, 7, 7, 7, 7, 7, 7, 7, 7, 7, 7, 7, 7, 7, 7, 7, 7, 7, 7, 7, 7, 7, 7, 7, 7, 7, 7, 7, 7, 7, 7, 7, 7, 7, 7, 7, 7, 7, 7, 7, 7, 7, 7, 7, 7, 7, 7, 7, 7, 7, 8, 8, 8, 8, 8, 8, 8, 8, 8, 8, 8, 8, 8, 8, 8, 8, 8, 8, 8, 8, 8, 8, 8, 8, 8, 8, 8, 8, 8, 8, 8, 8, 8, 8, 8, 8, 8, 8, 8, 8, 8, 8, 8, 8, 8, 8, 8, 8, 8, 8, 8, 8, 8, 8, 8, 8, 8, 8, 8, 8, 8, 8, 8, 8, 8, 8, 8, 8, 8, 8, 8, 8, 8, 8, 8, 8, 8, 8, 8, 8, 8, 8, 8, 8, 8, 8, 8, 8, 8, 8, 8, 8, 8, 8, 8, 8, 8, 8, 8, 8, 8, 8, 8, 8, 8, 8, 8, 8, 8, 8, 8, 8, 8, 8, 8, 8, 8, 8, 8, 8, 8, 8, 8, 8, 8, 8, 8, 8] : List UInt8).toArray } : ByteArray)[j.1]'(by have := j.2; exact this)).toNat : Int) = len8Z (j.1 : Int) := by decide +kernel
set_option maxRecDepth 1000000 in
theorem run_len {t : TypeId} (ht : Tryd.prog.underlying t = some .string) (w : World) (k : IntKind) (i : Int) (h0 : 0 ≤ i) (h1 : i < 256) : (Instr.index t (.string ({ data := ([0, 1, 2, 2, 3, 3, 3, 3, 4, 4, 4, 4, 4, 4, 4, 4, 5, 5, 5, 5, 5, 5, 5, 5, 5, 5, 5, 5, 5, 5, 5, 5, 6, 6, 6, 6, 6, 6, 6, 6, 6, 6, 6, 6, 6, 6, 6, 6, 6, 6, 6, 6, 6, 6, 6, 6, 6, 6, 6, 6, 6, 6, 6, 6, 7, 7, 7, 7, 7, 7, 7, 7, 7, 7, 7, 7, 7, 7, 7, 7, 7, 7, 7, 7, 7, 7, 7, 7, 7, 7, 7, 7, 7, 7, 7, 7, 7, 7, 7, 7, 7, 7, 7, 7, 7, 7, 7, 7, 7, 7, 7, 7, 7, 7, 7, 7, 7, 7, 7, 7, 7, 7, 7, 7, 7, 7, 7, 7, 8, 8, 8, 8, 8, 8, 8, 8, 8, 8, 8, 8, 8, 8, 8, 8, 8, 8, 8, 8, 8, 8, 8, 8, 8, 8, 8, 8, 8, 8, 8, 8, 8, 8, 8, 8, 8, 8, 8, 8, 8, 8, 8, 8, 8, 8, 8, 8, 8, 8, 8, 8, 8, 8, 8, 8, 8, 8, 8, 8, 8, 8, 8, 8, 8, 8, 8, 8, 8, 8, 8, 8, 8, 8, 8, 8, 8, 8, 8, 8, 8, 8, 8, 8, 8, 8, 8, 8, 8, 8, 8, 8, 8, 8, 8, 8, 8, 8, 8, 8, 8, 8, 8, 8, 8, 8, 8, 8, 8, 8, 8, 8, 8, 8, 8, 8, 8, 8, 8, 8, 8, 8, 8, 8, 8, 8, 8, 8] : List UInt8).toArray } : ByteArray)) (.int k i)).run Tryd.prog w = .ok (.int .u8 (len8Z i)) w := by
  have hs : (({ data := ([0, 1, 2, 2, 3, 3, 3, 3, 4, 4, 4, 4, 4, 4, 4, 4, 5, 5, 5, 5, 5, 5, 5, 5, 5, 5, 5, 5, 5, 5, 5, 5, 6, 6, 6, 6, 6, 6, 6, 6, 6, 6, 6, 6, 6, 6, 6, 6, 6, 6, 6, 6, 6, 6, 6, 6, 6, 6, 6, 6, 6, 6, 6, 6, 7, 7, 7, 7, 7, 7, 7, 7, 7, 7, 7, 7, 7, 7, 7, 7, 7, 7, 7, 7, 7, 7, 7, 7, 7, 7, 7, 7, 7, 7, 7, 7, 7, 7, 7, 7, 7, 7, 7, 7, 7, 7, 7, 7, 7, 7, 7, 7, 7, 7, 7, 7, 7, 7, 7, 7, 7, 7, 7, 7, 7, 7, 7, 7, 8, 8, 8, 8, 8, 8, 8, 8, 8, 8, 8, 8, 8, 8, 8, 8, 8, 8, 8, 8, 8, 8, 8, 8, 8, 8, 8, 8, 8, 8, 8, 8, 8, 8, 8, 8, 8, 8, 8, 8, 8, 8, 8, 8, 8, 8, 8, 8, 8, 8, 8, 8, 8, 8, 8, 8, 8, 8, 8, 8, 8, 8, 8, 8, 8, 8, 8, 8, 8, 8, 8, 8, 8, 8, 8, 8, 8, 8, 8, 8, 8, 8, 8, 8, 8, 8, 8, 8, 8, 8, 8, 8, 8, 8, 8, 8, 8, 8, 8, 8, 8, 8, 8, 8, 8, 8, 8, 8, 8, 8, 8, 8, 8, 8, 8, 8, 8, 8, 8, 8, 8, 8, 8, 8, 8, 8, 8, 8] : List UInt8).toArray } : ByteArray)).size = 256 := rfl
  rw [run_index_string w t _ k i ht, dif_pos ⟨h0, by omega⟩]
  have h := len_get ⟨i.toNat, by omega⟩
  have e : ((i.toNat : Nat) : Int) = i := by omega
  simp only [e] at h
  rw [← h]
theorem len8Z_in (i : Int) : 0 ≤ len8Z i ∧ len8Z i ≤ 8 := by
  unfold len8Z
  repeat' (first | omega | split)
set_option maxRecDepth 1000000 in
set_option maxHeartbeats 1600000 in
theorem len8_any (x : Int) (w : World) (c : Int) (hc : len8Z x = c) (hx : 0 ≤ x ∧ x ≤ 255) : Calls Tryd.prog 52 #[.int .u8 x] w fun e w' => e = .returned (.int .i64 c) ∧ w = w' := by
  obtain ⟨x1, x2⟩ := hx
  have i0 : ∀ w, (Instr.index 9 (.string ({ data := ([0, 1, 2, 2, 3, 3, 3, 3, 4, 4, 4, 4, 4, 4, 4, 4, 5, 5, 5, 5, 5, 5, 5, 5, 5, 5, 5, 5, 5, 5, 5, 5, 6, 6, 6, 6, 6, 6, 6, 6, 6, 6, 6, 6, 6, 6, 6, 6, 6, 6, 6, 6, 6, 6, 6, 6, 6, 6, 6, 6, 6, 6, 6, 6, 7, 7, 7, 7, 7, 7, 7, 7, 7, 7, 7, 7, 7, 7, 7, 7, 7, 7, 7, 7, 7, 7, 7, 7, 7, 7, 7, 7, 7, 7, 7, 7, 7, 7, 7, 7, 7, 7, 7, 7, 7, 7, 7, 7, 7, 7, 7, 7, 7, 7, 7, 7, 7, 7, 7, 7, 7, 7, 7, 7, 7, 7, 7, 7, 8, 8, 8, 8, 8, 8, 8, 8, 8, 8, 8, 8, 8, 8, 8, 8, 8, 8, 8, 8, 8, 8, 8, 8, 8, 8, 8, 8, 8, 8, 8, 8, 8, 8, 8, 8, 8, 8, 8, 8, 8, 8, 8, 8, 8, 8, 8, 8, 8, 8, 8, 8, 8, 8, 8, 8, 8, 8, 8, 8, 8, 8, 8, 8, 8, 8, 8, 8, 8, 8, 8, 8, 8, 8, 8, 8, 8, 8, 8, 8, 8, 8, 8, 8, 8, 8, 8, 8, 8, 8, 8, 8, 8, 8, 8, 8, 8, 8, 8, 8, 8, 8, 8, 8, 8, 8, 8, 8, 8, 8, 8, 8, 8, 8, 8, 8, 8, 8, 8, 8, 8, 8, 8, 8, 8, 8, 8, 8] : List UInt8).toArray } : ByteArray)) (.int .u8 x)).run Tryd.prog w = .ok (.int .u8 (len8Z x)) w := fun w => run_len (by kernel_rfl) w _ _ (by omega) (by omega)
  have hb := len8Z_in x
  rw [hc] at i0 hb
  clear hc
  go_enter Tryd.func52, Tryd.ntmps52
  go_wp2_with fail
  go_ret
  exact ⟨rfl, rfl⟩
set_option maxRecDepth 1000000 in
set_option maxHeartbeats 1600000 in
theorem lead8_any (x : Int) (w : World) (c : Int) (hc : 8 - len8Z x = c) (hx : 0 ≤ x ∧ x ≤ 255) : Calls Tryd.prog 50 #[.int .u8 x] w fun e w' => e = .returned (.int .i64 c) ∧ w = w' := by
  have hb := len8Z_in x
  have H1 := Lib.hid (fun w => len8_any x w _ rfl hx)
  have HC := Lib.hid hc
  generalize len8Z x = l at *
  clear hc
  go_enter Tryd.func50, Tryd.ntmps50
  go_wp2_with (go_at_call 52; refine (H1.out _).mono ?_; rintro e w' ⟨rfl, rfl⟩)
  go_ret
  exact ⟨ret_int HC.out, rfl⟩
end Go.Proofs.YtimplngemjdodaaDoor
