/- what the proof stands on: UtfD UtfE UtfF UtfI UtfJ -/
import Derived.BigQuiet
import Derived.Deep.LoopGhost
import Derived.Deep.DeepCutAuto
import Derived.Deep.CutBlock
import Derived.Laws.BitsAll
import Derived.Lib.AppendZeros
import Derived.Deep.OwnRows
import Derived.Test.YtamhnffokoejjaaGreatDoorKnaj
import Derived.Test.YtamhnffokoejjaaGreatDoorChecked
import Derived.Test.YtamhnffokoejjaaGreatDoorKnad
namespace Go.Proofs.YtamhnffokoejjaaGreatDoor
set_option linter.unusedSimpArgs false
set_option linter.unusedVariables false
set_option linter.unusedSectionVars false
open Go.RowKit
theorem tl_nat (n : Nat) (hn : n ≤ 255) : (((n / 64 * 64 : Nat) : Int) == 128) = tl (n : Int) := by
  unfold tl
  rw [Bool.eq_iff_iff, beq_iff_eq, decide_eq_true_eq]
  omega
set_option maxRecDepth 100000 in
theorem isTail_any (x : Int) (w : World) (c : Bool) (hc : tl x = c) (hx : 0 ≤ x ∧ x ≤ 255) : Calls Tryz.prog 266 #[.int .u8 x] w fun e w' => e = .returned (.bool c) ∧ w = w' := by
  obtain ⟨n, rfl⟩ := Int.eq_ofNat_of_zero_le hx.1
  have hn : n ≤ 255 := by omega
  have h1 : bits .andNot .u8 (n : Int) 63 = ((n / 64 * 64 : Nat) : Int) := by go_bits2
  have h2 := tl_nat n hn
  rw [hc] at h2
  go_enter Tryz.func266, Tryz.ntmps266
  go_wp2_with fail
  go_ret
  exact ⟨ret_bool h2, rfl⟩
def sizeZ (r : Int) : Int := if ¬ (0 ≤ r ∧ r ≤ 1114111 ∧ ¬ (55296 ≤ r ∧ r ≤ 57343)) then 0 else if r < 128 then 1 else if r < 2048 then 2 else if r < 65536 then 3 else 4
def joinZ (r x : Int) : Int := if r < 0 ∨ tl x = false then -1 else r * 64 + (x - 128)
theorem joinZ_in {r x : Int} (hr : r ≤ 262144) (hx : x ≤ 255) : -1 ≤ joinZ r x ∧ joinZ r x ≤ 16777343 := by
  unfold joinZ
  split
  · omega
  · rename_i h
    have : tl x = true := by simpa using (not_or.1 h).2
    have := of_decide_eq_true this
    have := (not_or.1 h).1
    omega
set_option maxRecDepth 100000 in
set_option maxHeartbeats 1600000 in
theorem size_any (r : Int) (w : World) (c : Int) (hc : sizeZ r = c) (hr : -2147483648 ≤ r ∧ r ≤ 2147483647) : Calls Tryz.prog 241 #[.int .i32 r] w fun e w' => e = .returned (.int .i64 c) ∧ w = w' := by
  obtain ⟨h1, h2⟩ := hr
  unfold sizeZ at hc
  by_cases q1 : r < 0
  · rw [if_pos (by omega)] at hc
    have HC := Lib.hid hc
    clear hc
    go_enter Tryz.func241, Tryz.ntmps241
    go_wp2_with fail
    go_ret
    exact ⟨ret_int HC.out, rfl⟩
  by_cases q2 : r > 1114111
  · rw [if_pos (by omega)] at hc
    have HC := Lib.hid hc
    clear hc
    go_enter Tryz.func241, Tryz.ntmps241
    go_wp2_with fail
    go_ret
    exact ⟨ret_int HC.out, rfl⟩
  by_cases q3 : 55296 ≤ r
  · by_cases q4 : r ≤ 57343
    · rw [if_pos (by omega)] at hc
      have HC := Lib.hid hc
      clear hc
      go_enter Tryz.func241, Tryz.ntmps241
      go_wp2_with fail
      go_ret
      exact ⟨ret_int HC.out, rfl⟩
    rw [if_neg (by omega), if_neg (by omega), if_neg (by omega)] at hc
    by_cases q5 : r < 65536
    · rw [if_pos (by omega)] at hc
      have HC := Lib.hid hc
      clear hc
      go_enter Tryz.func241, Tryz.ntmps241
      go_wp2_with fail
      go_ret
      exact ⟨ret_int HC.out, rfl⟩
    · rw [if_neg (by omega)] at hc
      have HC := Lib.hid hc
      clear hc
      go_enter Tryz.func241, Tryz.ntmps241
      go_wp2_with fail
      go_ret
      exact ⟨ret_int HC.out, rfl⟩
  rw [if_neg (by omega)] at hc
  by_cases q6 : r < 128
  · rw [if_pos (by omega)] at hc
    have HC := Lib.hid hc
    clear hc
    go_enter Tryz.func241, Tryz.ntmps241
    go_wp2_with fail
    go_ret
    exact ⟨ret_int HC.out, rfl⟩
  rw [if_neg (by omega)] at hc
  by_cases q7 : r < 2048
  · rw [if_pos (by omega)] at hc
    have HC := Lib.hid hc
    clear hc
    go_enter Tryz.func241, Tryz.ntmps241
    go_wp2_with fail
    go_ret
    exact ⟨ret_int HC.out, rfl⟩
  · rw [if_neg (by omega), if_pos (by omega)] at hc
    have HC := Lib.hid hc
    clear hc
    go_enter Tryz.func241, Tryz.ntmps241
    go_wp2_with fail
    go_ret
    exact ⟨ret_int HC.out, rfl⟩
set_option maxRecDepth 100000 in
set_option maxHeartbeats 1600000 in
theorem ujoin_any (r x : Int) (w : World) (c : Int) (hc : joinZ r x = c) (hr : -1 ≤ r ∧ r ≤ 262144) (hx : 0 ≤ x ∧ x ≤ 255) : Calls Tryz.prog 240 #[.int .i32 r, .int .u8 x] w fun e w' => e = .returned (.int .i32 c) ∧ w = w' := by
  obtain ⟨r1, r2⟩ := hr
  have HX := Lib.hid hx
  obtain ⟨x1, x2⟩ := hx
  unfold joinZ at hc
  by_cases q : r < 0
  · rw [if_pos (.inl q)] at hc
    have HC := Lib.hid hc
    clear hc
    go_enter Tryz.func240, Tryz.ntmps240
    go_wp2_with fail
    go_ret
    exact ⟨ret_int HC.out, rfl⟩
  · rcases ht : tl x
    · rw [if_pos (.inr ht)] at hc
      have HC := Lib.hid hc
      have H1 := Lib.hid (fun w => isTail_any x w false ht HX.out)
      clear hc ht
      go_enter Tryz.func240, Tryz.ntmps240
      go_wp2_with (go_at_call 266; refine (H1.out _).mono ?_; rintro e w' ⟨rfl, rfl⟩)
      go_ret
      exact ⟨ret_int HC.out, rfl⟩
    · rw [if_neg (by rw [ht]; simpa using q)] at hc
      have H1 := Lib.hid (fun w => isTail_any x w true ht HX.out)
      have hb : 128 ≤ x ∧ x ≤ 191 := of_decide_eq_true ht
      have h1 : bits .and .u8 x 63 = x % 64 := u8_and63 x (by omega) (by omega)
      have h2 : bits .or .i32 (r * 64) (x % 64) = r * 64 + x % 64 := i32_or6 _ _ (by omega) (by omega) (by omega) (by omega) (by omega)
      have HC : Hid (r * 64 + x % 64 = c) := Lib.hid (by omega)
      clear hc ht
      go_enter Tryz.func240, Tryz.ntmps240
      go_wp2_with (go_at_call 266; refine (H1.out _).mono ?_; rintro e w' ⟨rfl, rfl⟩)
      go_ret
      exact ⟨ret_int HC.out, rfl⟩
def len8Z (i : Int) : Int := if i < 1 then 0 else if i < 2 then 1 else if i < 4 then 2 else if i < 8 then 3 else if i < 16 then 4 else if i < 32 then 5 else if i < 64 then 6 else if i < 128 then 7 else 8
def toldZ (a : Int) : Int := if a < 128 then 1 else if a < 192 then 0 else if a < 224 then 2 else if a < 240 then 3 else if a < 248 then 4 else 0
set_option maxRecDepth 1000000 in
theorem len_get : ∀ j : Fin 256, ((({ data := ([0, 1, 2, 2, 3, 3, 3, 3, 4, 4, 4, 4, 4, 4, 4, 4, 5, 5, 5, 5, 5, 5, 5, 5, 5, 5, 5, 5, 5, 5, 5, 5, 6, 6, 6, 6, 6, 6, 6, 6, 6, 6, 6, 6, 6, 6, 6, 6, 6, 6, 6, 6, 6, 6, 6, 6, 6, 6, 6, 6, 6, 6, 6, 6, 7, 7, 7, 7, 7, 7, 7, 7, 7, 7, 7, 7, 7, 7, 7, 7, 7, 7, 7, 7, 7, 7, 7, 7, 7, 7, 7, 7, 7, 7, 7, 7, 7, 7, 7, 7, 7, 7, 7, 7, 7, 7, 7, 7, 7, 7, 7, 7, 7, 7, 7, 7, 7, 7, 7, 7, 7, 7, 7, 7, 7, 7, 7, 7, 8, 8, 8, 8, 8, 8, 8, 8, 8, 8, 8, 8, 8, 8, 8, 8, 8, 8, 8, 8, 8, 8, 8, 8, 8, 8, 8, 8, 8, 8, 8, 8, 8, 8, 8, 8, 8, 8, 8, 8, 8, 8, 8, 8, 8, 8, 8, 8, 8, 8, 8, 8, 8, 8, 8, 8, 8, 8, 8, 8, 8, 8, 8, 8, 8, 8, 8, 8, 8, 8, 8, 8, 8, 8, 8, 8, 8, 8, 8, 8, 8, 8, 8, 8, 8, 8, 8, 8, 8, 8, 8, 8, 8, 8, 8, 8, 8, 8, 8, 8, 8, 8, 8, 8, 8, 8, 8, 8, 8, 8, 8, 8, 8, 8, 8, 8, 8, 8, 8, 8, 8, 8, 8, 8, 8, 8, 8, 8] : List UInt8).toArray } : ByteArray)[j.1]'(by have := j.2; exact this)).toNat : Int) = len8Z (j.1 : Int) := by decide +kernel
set_option maxRecDepth 1000000 in
theorem run_len {t : TypeId} (ht : Tryz.prog.underlying t = some .string) (w : World) (k : IntKind) (i : Int) (h0 : 0 ≤ i) (h1 : i < 256) : (Instr.index t (.string ({ data := ([0, 1, 2, 2, 3, 3, 3, 3, 4, 4, 4, 4, 4, 4, 4, 4, 5, 5, 5, 5, 5, 5, 5, 5, 5, 5, 5, 5, 5, 5, 5, 5, 6, 6, 6, 6, 6, 6, 6, 6, 6, 6, 6, 6, 6, 6, 6, 6, 6, 6, 6, 6, 6, 6, 6, 6, 6, 6, 6, 6, 6, 6, 6, 6, 7, 7, 7, 7, 7, 7, 7, 7, 7, 7, 7, 7, 7, 7, 7, 7, 7, 7, 7, 7, 7, 7, 7, 7, 7, 7, 7, 7, 7, 7, 7, 7, 7, 7, 7, 7, 7, 7, 7, 7, 7, 7, 7, 7, 7, 7, 7, 7, 7, 7, 7, 7, 7, 7, 7, 7, 7, 7, 7, 7, 7, 7, 7, 7, 8, 8, 8, 8, 8, 8, 8, 8, 8, 8, 8, 8, 8, 8, 8, 8, 8, 8, 8, 8, 8, 8, 8, 8, 8, 8, 8, 8, 8, 8, 8, 8, 8, 8, 8, 8, 8, 8, 8, 8, 8, 8, 8, 8, 8, 8, 8, 8, 8, 8, 8, 8, 8, 8, 8, 8, 8, 8, 8, 8, 8, 8, 8, 8, 8, 8, 8, 8, 8, 8, 8, 8, 8, 8, 8, 8, 8, 8, 8, 8, 8, 8, 8, 8, 8, 8, 8, 8, 8, 8, 8, 8, 8, 8, 8, 8, 8, 8, 8, 8, 8, 8, 8, 8, 8, 8, 8, 8, 8, 8, 8, 8, 8, 8, 8, 8, 8, 8, 8, 8, 8, 8, 8, 8, 8, 8, 8, 8] : List UInt8).toArray } : ByteArray)) (.int k i)).run Tryz.prog w = .ok (.int .u8 (len8Z i)) w := by
  have hs : (({ data := ([0, 1, 2, 2, 3, 3, 3, 3, 4, 4, 4, 4, 4, 4, 4, 4, 5, 5, 5, 5, 5, 5, 5, 5, 5, 5, 5, 5, 5, 5, 5, 5, 6, 6, 6, 6, 6, 6, 6, 6, 6, 6, 6, 6, 6, 6, 6, 6, 6, 6, 6, 6, 6, 6, 6, 6, 6, 6, 6, 6, 6, 6, 6, 6, 7, 7, 7, 7, 7, 7, 7, 7, 7, 7, 7, 7, 7, 7, 7, 7, 7, 7, 7, 7, 7, 7, 7, 7, 7, 7, 7, 7, 7, 7, 7, 7, 7, 7, 7, 7, 7, 7, 7, 7, 7, 7, 7, 7, 7, 7, 7, 7, 7, 7, 7, 7, 7, 7, 7, 7, 7, 7, 7, 7, 7, 7, 7, 7, 8, 8, 8, 8, 8, 8, 8, 8, 8, 8, 8, 8, 8, 8, 8, 8, 8, 8, 8, 8, 8, 8, 8, 8, 8, 8, 8, 8, 8, 8, 8, 8, 8, 8, 8, 8, 8, 8, 8, 8, 8, 8, 8, 8, 8, 8, 8, 8, 8, 8, 8, 8, 8, 8, 8, 8, 8, 8, 8, 8, 8, 8, 8, 8, 8, 8, 8, 8, 8, 8, 8, 8, 8, 8, 8, 8, 8, 8, 8, 8, 8, 8, 8, 8, 8, 8, 8, 8, 8, 8, 8, 8, 8, 8, 8, 8, 8, 8, 8, 8, 8, 8, 8, 8, 8, 8, 8, 8, 8, 8, 8, 8, 8, 8, 8, 8, 8, 8, 8, 8, 8, 8, 8, 8, 8, 8, 8, 8] : List UInt8).toArray } : ByteArray)).size = 256 := rfl
  rw [run_index_string w t _ k i ht, dif_pos ⟨h0, by omega⟩]
  have h := len_get ⟨i.toNat, by omega⟩
  have e : ((i.toNat : Nat) : Int) = i := by omega
  simp only [e] at h
  rw [← h]
theorem len8Z_in (i : Int) : 0 ≤ len8Z i ∧ len8Z i ≤ 8 := by
  unfold len8Z
  repeat' (first | omega | split)
set_option maxRecDepth 1000000 in
set_option maxHeartbeats 1600000 in
theorem len8_any (x : Int) (w : World) (c : Int) (hc : len8Z x = c) (hx : 0 ≤ x ∧ x ≤ 255) : Calls Tryz.prog 290 #[.int .u8 x] w fun e w' => e = .returned (.int .i64 c) ∧ w = w' := by
  obtain ⟨x1, x2⟩ := hx
  have i0 : ∀ w, (Instr.index 9 (.string ({ data := ([0, 1, 2, 2, 3, 3, 3, 3, 4, 4, 4, 4, 4, 4, 4, 4, 5, 5, 5, 5, 5, 5, 5, 5, 5, 5, 5, 5, 5, 5, 5, 5, 6, 6, 6, 6, 6, 6, 6, 6, 6, 6, 6, 6, 6, 6, 6, 6, 6, 6, 6, 6, 6, 6, 6, 6, 6, 6, 6, 6, 6, 6, 6, 6, 7, 7, 7, 7, 7, 7, 7, 7, 7, 7, 7, 7, 7, 7, 7, 7, 7, 7, 7, 7, 7, 7, 7, 7, 7, 7, 7, 7, 7, 7, 7, 7, 7, 7, 7, 7, 7, 7, 7, 7, 7, 7, 7, 7, 7, 7, 7, 7, 7, 7, 7, 7, 7, 7, 7, 7, 7, 7, 7, 7, 7, 7, 7, 7, 8, 8, 8, 8, 8, 8, 8, 8, 8, 8, 8, 8, 8, 8, 8, 8, 8, 8, 8, 8, 8, 8, 8, 8, 8, 8, 8, 8, 8, 8, 8, 8, 8, 8, 8, 8, 8, 8, 8, 8, 8, 8, 8, 8, 8, 8, 8, 8, 8, 8, 8, 8, 8, 8, 8, 8, 8, 8, 8, 8, 8, 8, 8, 8, 8, 8, 8, 8, 8, 8, 8, 8, 8, 8, 8, 8, 8, 8, 8, 8, 8, 8, 8, 8, 8, 8, 8, 8, 8, 8, 8, 8, 8, 8, 8, 8, 8, 8, 8, 8, 8, 8, 8, 8, 8, 8, 8, 8, 8, 8, 8, 8, 8, 8, 8, 8, 8, 8, 8, 8, 8, 8, 8, 8, 8, 8, 8, 8] : List UInt8).toArray } : ByteArray)) (.int .u8 x)).run Tryz.prog w = .ok (.int .u8 (len8Z x)) w := fun w => run_len (by kernel_rfl) w _ _ (by omega) (by omega)
  have hb := len8Z_in x
  rw [hc] at i0 hb
  clear hc
  go_enter Tryz.func290, Tryz.ntmps290
  go_wp2_with fail
  go_ret
  exact ⟨rfl, rfl⟩
set_option maxRecDepth 1000000 in
set_option maxHeartbeats 1600000 in
theorem lead8_any (x : Int) (w : World) (c : Int) (hc : 8 - len8Z x = c) (hx : 0 ≤ x ∧ x ≤ 255) : Calls Tryz.prog 265 #[.int .u8 x] w fun e w' => e = .returned (.int .i64 c) ∧ w = w' := by
  have hb := len8Z_in x
  have H1 := Lib.hid (fun w => len8_any x w _ rfl hx)
  have HC := Lib.hid hc
  generalize len8Z x = l at *
  clear hc
  go_enter Tryz.func265, Tryz.ntmps265
  go_wp2_with (go_at_call 290; refine (H1.out _).mono ?_; rintro e w' ⟨rfl, rfl⟩)
  go_ret
  exact ⟨ret_int HC.out, rfl⟩
end Go.Proofs.YtamhnffokoejjaaGreatDoor
namespace Go.Proofs.YtamhnffokoejjaaGreatDoor
set_option linter.unusedSimpArgs false
set_option linter.unusedVariables false
set_option linter.unusedSectionVars false
open Go.RowKit
theorem told_lead {a : Int} (h1 : 0 ≤ a) (h2 : a ≤ 255) : (8 - len8Z (255 - a) = 0 ∧ toldZ a = 1) ∨ (8 - len8Z (255 - a) = 2 ∧ toldZ a = 2) ∨ (8 - len8Z (255 - a) = 3 ∧ toldZ a = 3) ∨ (8 - len8Z (255 - a) = 4 ∧ toldZ a = 4) ∨
    (toldZ a = 0 ∧ 8 - len8Z (255 - a) ≠ 0 ∧ 8 - len8Z (255 - a) ≠ 2 ∧ 8 - len8Z (255 - a) ≠ 3 ∧ 8 - len8Z (255 - a) ≠ 4) := by
  unfold len8Z toldZ
  repeat' (first | omega | split)
theorem xor_get : ∀ j : Fin 256, bits .xor .u8 IntKind.u8.max (j.1 : Int) = 255 - (j.1 : Int) := by decide +kernel
theorem xor_max {a : Int} (h1 : 0 ≤ a) (h2 : a ≤ 255) : bits .xor .u8 IntKind.u8.max a = 255 - a := by
  have h := xor_get ⟨a.toNat, by omega⟩
  have e : ((a.toNat : Nat) : Int) = a := by omega
  simpa only [e] using h
set_option maxRecDepth 100000 in
set_option maxHeartbeats 3200000 in
theorem told_any (a : Int) (w : World) (c : Int) (hc : toldZ a = c) (ha : 0 ≤ a ∧ a ≤ 255) : Calls Tryz.prog 239 #[.int .u8 a] w fun e w' => e = .returned (.int .i64 c) ∧ w = w' := by
  obtain ⟨h1, h2⟩ := ha
  have H1 := Lib.hid (fun w => lead8_any (255 - a) w _ rfl ⟨by omega, by omega⟩)
  have ht := told_lead h1 h2
  rw [hc] at ht
  have hb := len8Z_in (255 - a)
  have hxm := xor_max h1 h2
  have hsg : IntKind.u8.signed = false := rfl
  generalize hz : 8 - len8Z (255 - a) = z at *
  have hzb : 0 ≤ z ∧ z ≤ 8 := by omega
  clear hc hb hz
  rcases ht with ⟨rfl, rfl⟩ | ⟨rfl, rfl⟩ | ⟨rfl, rfl⟩ | ⟨rfl, rfl⟩ | ⟨rfl, n0, n2, n3, n4⟩
  · go_enter Tryz.func239, Tryz.ntmps239
    go_wp2_with (go_at_call 265; refine (H1.out _).mono ?_; rintro e w' ⟨rfl, rfl⟩)
    go_ret
    exact ⟨rfl, rfl⟩
  · go_enter Tryz.func239, Tryz.ntmps239
    go_wp2_with (go_at_call 265; refine (H1.out _).mono ?_; rintro e w' ⟨rfl, rfl⟩)
    go_ret
    exact ⟨rfl, rfl⟩
  · go_enter Tryz.func239, Tryz.ntmps239
    go_wp2_with (go_at_call 265; refine (H1.out _).mono ?_; rintro e w' ⟨rfl, rfl⟩)
    go_ret
    exact ⟨rfl, rfl⟩
  · go_enter Tryz.func239, Tryz.ntmps239
    go_wp2_with (go_at_call 265; refine (H1.out _).mono ?_; rintro e w' ⟨rfl, rfl⟩)
    go_ret
    exact ⟨rfl, rfl⟩
  · have d0 : (z == 0) = false := by simpa using n0
    have d2 : (z == 2) = false := by simpa using n2
    have d3 : (z == 3) = false := by simpa using n3
    have d4 : (z == 4) = false := by simpa using n4
    go_enter Tryz.func239, Tryz.ntmps239
    go_wp2_with (go_at_call 265; refine (H1.out _).mono ?_; rintro e w' ⟨rfl, rfl⟩)
    go_ret
    exact ⟨rfl, rfl⟩
end Go.Proofs.YtamhnffokoejjaaGreatDoor
namespace Go.Proofs.YtamhnffokoejjaaGreatDoor
set_option linter.unusedSimpArgs false
set_option linter.unusedVariables false
set_option linter.unusedSectionVars false
open Go.RowKit
structure GlobU (w : World) : Prop where
  c1 : w.cell? ⟨0, 1, none⟩ = some (.int .u8 0)
  c2 : w.cell? ⟨0, 2, none⟩ = some (.int .u8 192)
  c3 : w.cell? ⟨0, 3, none⟩ = some (.int .u8 224)
  c4 : w.cell? ⟨0, 4, none⟩ = some (.int .u8 240)
theorem GlobU.later {w w' : World} (h : AnyLater w w') (g : GlobU w) : GlobU w' :=
  ⟨(h.below.cell (World.block_lt_of_cell? _ _ g.c1)).trans g.c1, (h.below.cell (World.block_lt_of_cell? _ _ g.c2)).trans g.c2, (h.below.cell (World.block_lt_of_cell? _ _ g.c3)).trans g.c3, (h.below.cell (World.block_lt_of_cell? _ _ g.c4)).trans g.c4⟩
theorem joinZ_eq (r x : Int) : joinZ r x = if r < 0 ∨ ¬ (128 ≤ x ∧ x ≤ 191) then -1 else r * 64 + (x - 128) := by
  unfold joinZ tl
  simp only [decide_eq_false_iff_not]
theorem joinZ_le {r x m : Int} (hm : 0 ≤ m) (hr : r ≤ m) : -1 ≤ joinZ r x ∧ joinZ r x ≤ m * 64 + 63 := by
  rw [joinZ_eq]
  split <;> omega
theorem dec4_bad {n : Nat} {a b c d : Int} (h0 : n ≠ 0) (h1 : ¬ a < 128) (h2 : ¬ (2 ≤ n ∧ 194 ≤ a ∧ a ≤ 223 ∧ 128 ≤ b ∧ b ≤ 191)) (h3 : ¬ (3 ≤ n ∧ 224 ≤ a ∧ a ≤ 239 ∧ 128 ≤ b ∧ b ≤ 191 ∧ 128 ≤ c ∧ c ≤ 191 ∧ 2048 ≤ v3 a b c ∧ ¬ (55296 ≤ v3 a b c ∧ v3 a b c ≤ 57343)))
    (h4 : ¬ (4 ≤ n ∧ 240 ≤ a ∧ a ≤ 247 ∧ 128 ≤ b ∧ b ≤ 191 ∧ 128 ≤ c ∧ c ≤ 191 ∧ 128 ≤ d ∧ d ≤ 191 ∧ 65536 ≤ v4 a b c d ∧ v4 a b c d ≤ 1114111)) : dec4 n a b c d = (65533, 1) := by
  unfold dec4
  rw [if_neg h0, if_neg h1, if_neg h2, if_neg h3, if_neg h4]
theorem told_cases (a : Int) : (a < 128 ∧ toldZ a = 1) ∨ (128 ≤ a ∧ a < 192 ∧ toldZ a = 0) ∨ (192 ≤ a ∧ a < 224 ∧ toldZ a = 2) ∨ (224 ≤ a ∧ a < 240 ∧ toldZ a = 3) ∨ (240 ≤ a ∧ a < 248 ∧ toldZ a = 4) ∨ (248 ≤ a ∧ toldZ a = 0) := by
  unfold toldZ
  repeat' (first | omega | split)
theorem told_bad {n : Nat} {a b c d : Int} (h0 : n ≠ 0) (h : toldZ a = 0 ∨ (n : Int) < toldZ a) : dec4 n a b c d = (65533, 1) := by
  have := told_cases a
  exact dec4_bad h0 (by omega) (by omega) (by omega) (by omega)
theorem told_two {n : Nat} {a b c d : Int} (h1 : 192 ≤ a) (h2 : a < 224) (hn : 2 ≤ n) : (sizeZ (joinZ (a - 192) b) = 2 ∧ dec4 n a b c d = (joinZ (a - 192) b, 2)) ∨ (sizeZ (joinZ (a - 192) b) ≠ 2 ∧ dec4 n a b c d = (65533, 1)) := by
  rw [joinZ_eq]
  by_cases q : 128 ≤ b ∧ b ≤ 191
  · rw [if_neg (by omega)]
    by_cases q2 : 194 ≤ a
    · left
      refine ⟨by unfold sizeZ; rw [if_neg (by omega), if_neg (by omega), if_pos (by omega)], ?_⟩
      unfold dec4
      rw [if_neg (by omega), if_neg (by omega), if_pos (by omega)]
      rfl
    · right
      refine ⟨by unfold sizeZ; rw [if_neg (by omega), if_pos (by omega)]; decide, dec4_bad (by omega) (by omega) (by omega) (by omega) (by omega)⟩
  · rw [if_pos (.inr q)]
    right
    exact ⟨by decide, dec4_bad (by omega) (by omega) (by omega) (by omega) (by omega)⟩
theorem told_three {n : Nat} {a b c d : Int} (h1 : 224 ≤ a) (h2 : a < 240) (hn : 3 ≤ n) : (sizeZ (joinZ (joinZ (a - 224) b) c) = 3 ∧ dec4 n a b c d = (joinZ (joinZ (a - 224) b) c, 3)) ∨ (sizeZ (joinZ (joinZ (a - 224) b) c) ≠ 3 ∧ dec4 n a b c d = (65533, 1)) := by
  rw [joinZ_eq (a - 224) b]
  by_cases q : 128 ≤ b ∧ b ≤ 191
  · rw [if_neg (by omega), joinZ_eq]
    by_cases qc : 128 ≤ c ∧ c ≤ 191
    · rw [if_neg (by omega)]
      have e : ((a - 224) * 64 + (b - 128)) * 64 + (c - 128) = v3 a b c := by unfold v3; omega
      rw [e]
      have hv : v3 a b c ≤ 65535 := by unfold v3; omega
      have hv0 : 0 ≤ v3 a b c := by unfold v3; omega
      by_cases q2 : 2048 ≤ v3 a b c ∧ ¬ (55296 ≤ v3 a b c ∧ v3 a b c ≤ 57343)
      · left
        refine ⟨by unfold sizeZ; rw [if_neg (by omega), if_neg (by omega), if_neg (by omega), if_pos (by omega)], ?_⟩
        unfold dec4
        rw [if_neg (by omega), if_neg (by omega), if_neg (by omega), if_pos (by omega)]
      · right
        refine ⟨?_, dec4_bad (by omega) (by omega) (by omega) (by omega) (by omega)⟩
        unfold sizeZ
        repeat' (first | omega | split)
    · rw [if_pos (.inr qc)]
      right
      exact ⟨by decide, dec4_bad (by omega) (by omega) (by omega) (by omega) (by omega)⟩
  · rw [if_pos (.inr q), joinZ_eq, if_pos (.inl (by decide))]
    right
    exact ⟨by decide, dec4_bad (by omega) (by omega) (by omega) (by omega) (by omega)⟩
theorem told_four {n : Nat} {a b c d : Int} (h1 : 240 ≤ a) (h2 : a < 248) (hn : 4 ≤ n) : (sizeZ (joinZ (joinZ (joinZ (a - 240) b) c) d) = 4 ∧ dec4 n a b c d = (joinZ (joinZ (joinZ (a - 240) b) c) d, 4)) ∨ (sizeZ (joinZ (joinZ (joinZ (a - 240) b) c) d) ≠ 4 ∧ dec4 n a b c d = (65533, 1)) := by
  rw [joinZ_eq (a - 240) b]
  by_cases q : 128 ≤ b ∧ b ≤ 191
  · rw [if_neg (by omega), joinZ_eq _ c]
    by_cases qc : 128 ≤ c ∧ c ≤ 191
    · rw [if_neg (by omega), joinZ_eq]
      by_cases qd : 128 ≤ d ∧ d ≤ 191
      · rw [if_neg (by omega)]
        have e : (((a - 240) * 64 + (b - 128)) * 64 + (c - 128)) * 64 + (d - 128) = v4 a b c d := by unfold v4; omega
        rw [e]
        have hv0 : 0 ≤ v4 a b c d := by unfold v4; omega
        by_cases q2 : 65536 ≤ v4 a b c d ∧ v4 a b c d ≤ 1114111
        · left
          refine ⟨by unfold sizeZ; rw [if_neg (by omega), if_neg (by omega), if_neg (by omega), if_neg (by omega)], ?_⟩
          unfold dec4
          rw [if_neg (by omega), if_neg (by omega), if_neg (by omega), if_neg (by omega), if_pos (by omega)]
        · right
          refine ⟨?_, dec4_bad (by omega) (by omega) (by omega) (by omega) (by omega)⟩
          unfold sizeZ
          repeat' (first | omega | split)
      · rw [if_pos (.inr qd)]
        right
        exact ⟨by decide, dec4_bad (by omega) (by omega) (by omega) (by omega) (by omega)⟩
    · rw [if_pos (.inr qc), joinZ_eq, if_pos (.inl (by decide))]
      right
      exact ⟨by decide, dec4_bad (by omega) (by omega) (by omega) (by omega) (by omega)⟩
  · rw [if_pos (.inr q), joinZ_eq _ c, if_pos (.inl (by decide)), joinZ_eq, if_pos (.inl (by decide))]
    right
    exact ⟨by decide, dec4_bad (by omega) (by omega) (by omega) (by omega) (by omega)⟩
theorem heads_get : ∀ j : Fin 256, bits .andNot .u8 (j.1 : Int) 0 = (j.1 : Int) ∧ (192 ≤ j.1 → j.1 < 224 → bits .andNot .u8 (j.1 : Int) 192 = (j.1 : Int) - 192) ∧ (224 ≤ j.1 → j.1 < 240 → bits .andNot .u8 (j.1 : Int) 224 = (j.1 : Int) - 224) ∧ (240 ≤ j.1 → j.1 < 248 → bits .andNot .u8 (j.1 : Int) 240 = (j.1 : Int) - 240) := by decide +kernel
theorem heads_cut {a : Int} (h1 : 0 ≤ a) (h2 : a ≤ 255) : bits .andNot .u8 a 0 = a ∧ (192 ≤ a → a < 224 → bits .andNot .u8 a 192 = a - 192) ∧ (224 ≤ a → a < 240 → bits .andNot .u8 a 224 = a - 224) ∧ (240 ≤ a → a < 248 → bits .andNot .u8 a 240 = a - 240) := by
  have h := heads_get ⟨a.toNat, by omega⟩
  have e : ((a.toNat : Nat) : Int) = a := by omega
  simp only [e] at h
  exact ⟨h.1, fun x y => h.2.1 (by omega) (by omega), fun x y => h.2.2.1 (by omega) (by omega), fun x y => h.2.2.2 (by omega) (by omega)⟩
set_option maxRecDepth 100000 in
set_option maxHeartbeats 3200000 in
theorem dec_any (v : Value) (l : List Int) (w : World) (r : Int) (k : Nat) (hc : decU l = (r, k)) (hv : RU8 w v l) (hb : Bytes l) (hl : l.length ≤ 1000) (hg : GlobU w) :
    Calls Tryz.prog 198 #[v] w fun e w' => e = .returned (.tuple #[.int .i32 r, .int .i64 (k : Int)]) ∧ AnyLater w w' := by
  obtain ⟨A, cap, rfl, hcap, hcell⟩ := hv
  by_cases h0 : l.length = 0
  · obtain rfl := List.eq_nil_of_length_eq_zero h0
    obtain ⟨rfl, rfl⟩ : (0 : Int) = r ∧ 0 = k := by have : ((0 : Int), (0 : Nat)) = (r, k) := hc
                                                    cases this; exact ⟨rfl, rfl⟩
    clear hc hb hcell hg
    simp only [List.length_nil] at *
    go_enter Tryz.func198, Tryz.ntmps198
    go_wp2_with fail
    go_ret2
    exact ⟨rfl, AnyLater.refl _⟩
  obtain ⟨b, off, rfl, hbl, hcl⟩ := hcell (by omega)
  obtain ⟨n, hn⟩ : ∃ n, l.length = n := ⟨_, rfl⟩
  have hbd : ∀ j, 0 ≤ l.getD j 0 ∧ l.getD j 0 ≤ 255 := fun j => by
    by_cases q : j < l.length
    · rw [List.getD_eq_getElem?_getD, List.getElem?_eq_getElem q]; exact hb.get q
    · rw [List.getD_eq_getElem?_getD, List.getElem?_eq_none (by omega)]; simp
  have hcj : ∀ j, j < n → w.cell? ⟨b, off + j, none⟩ = some (.int .u8 (l.getD j 0)) := fun j hj => by
    rw [hcl j (by omega)]; simp [List.getD_eq_getElem?_getD, show j < l.length by omega]
  unfold decU at hc
  rw [hn] at hc hcap hl h0 ⊢
  have B0 := hbd 0
  have B1 := hbd 1
  have B2 := hbd 2
  have B3 := hbd 3
  have cc0 := hcj 0 (by omega)
  rw [Nat.add_zero] at cc0
  have C1 := Lib.hid (hcj 1)
  have C2 := Lib.hid (hcj 2)
  have C3 := Lib.hid (hcj 3)
  clear hcl hcj hbd hb hn hcell
  generalize l.getD 0 0 = a at *
  generalize l.getD 1 0 = x1 at *
  generalize l.getD 2 0 = x2 at *
  generalize l.getD 3 0 = x3 at *
  clear l
  have HG := Lib.hid hg
  obtain ⟨t, ht⟩ : ∃ t, toldZ a = t := ⟨_, rfl⟩
  have HT := Lib.hid (fun w => told_any a w t ht B0)
  obtain ⟨k0, k2, k3, k4⟩ := heads_cut B0.1 B0.2
  obtain ⟨a0, a1⟩ := B0
  by_cases hbad : toldZ a = 0 ∨ (n : Int) < toldZ a
  · rw [told_bad h0 hbad] at hc
    obtain ⟨rfl, rfl⟩ : (65533 : Int) = r ∧ 1 = k := by cases hc; exact ⟨rfl, rfl⟩
    clear hc k0 k2 k3 k4 hg
    rw [ht] at hbad
    have tb : 0 ≤ t ∧ t ≤ 4 := by have := told_cases a; omega
    clear ht
    by_cases t0 : t = 0
    · subst t0
      clear hbad tb
      go_enter Tryz.func198, Tryz.ntmps198
      go_wp2_with (go_at_call 239; refine (HT.out _).mono ?_; rintro e w' ⟨rfl, rfl⟩)
      go_ret2
      exact ⟨rfl, AnyLater.refl _⟩
    · have d0 : (t == 0) = false := by simpa using t0
      have d1 : (n : Int) < t := by omega
      clear hbad
      go_enter Tryz.func198, Tryz.ntmps198
      go_wp2_with (go_at_call 239; refine (HT.out _).mono ?_; rintro e w' ⟨rfl, rfl⟩)
      go_ret2
      exact ⟨rfl, AnyLater.refl _⟩
  have hok := not_or.1 hbad
  have tc := told_cases a
  clear hbad
  rcases tc with ⟨i1, e⟩ | ⟨_, _, e⟩ | ⟨i1, i2, e⟩ | ⟨i1, i2, e⟩ | ⟨i1, i2, e⟩ | ⟨_, e⟩
  · obtain rfl : 1 = t := e.symm.trans ht
    obtain ⟨rfl, rfl⟩ : a = r ∧ 1 = k := by
      have : dec4 n a x1 x2 x3 = (a, 1) := by unfold dec4; rw [if_neg h0, if_pos i1]
      rw [this] at hc; cases hc; exact ⟨rfl, rfl⟩
    have hs : sizeZ a = 1 := by unfold sizeZ; rw [if_neg (by omega), if_pos i1]
    have HS := Lib.hid (fun w => size_any a w 1 hs ⟨by omega, by omega⟩)
    have g1 := hg.c1
    clear hc ht e k2 k3 k4 hs hg
    go_enter Tryz.func198, Tryz.ntmps198
    go_wp2_with (go_at_call 239; refine (HT.out _).mono ?_; rintro e w' ⟨rfl, rfl⟩)
    go_quiet (fail)
    go_wp2_with (go_at_call 241; refine (HS.out _).mono ?_; rintro e w' ⟨rfl, rfl⟩)
    go_ret2
    exact ⟨rfl, (AnyLater.refl _).drewN _⟩
  · exact absurd e hok.1
  · obtain rfl : 2 = t := e.symm.trans ht
    have hn2 : 2 ≤ n := by have := hok.2; omega
    have cc1 := C1.out (by omega)
    have g1 := hg.c2
    have e2 := k2 i1 i2
    have J1 := Lib.hid (fun w => ujoin_any (a - 192) x1 w _ rfl ⟨by omega, by omega⟩ B1)
    have jb := joinZ_in (r := a - 192) (x := x1) (by omega) B1.2
    have HTW := told_two (b := x1) (c := x2) (d := x3) i1 i2 hn2
    rw [hc] at HTW
    clear hc ht e k0 k2 k3 k4 hg hok
    generalize joinZ (a - 192) x1 = j1 at *
    rcases HTW with ⟨hs, he⟩ | ⟨hs, he⟩
    · obtain ⟨rfl, rfl⟩ : r = j1 ∧ k = 2 := by cases he; exact ⟨rfl, rfl⟩
      have HS := Lib.hid (fun w => size_any r w 2 hs ⟨by omega, by omega⟩)
      clear hs he
      go_enter Tryz.func198, Tryz.ntmps198
      go_wp2_with (go_at_call 239; refine (HT.out _).mono ?_; rintro e w' ⟨rfl, rfl⟩)
      go_quiet (fail)
      go_wp2_with (first | (go_at_call 240; refine (J1.out _).mono ?_; rintro e w' ⟨rfl, rfl⟩) | (go_at_call 241; refine (HS.out _).mono ?_; rintro e w' ⟨rfl, rfl⟩))
      go_ret2
      exact ⟨rfl, (AnyLater.refl _).drewN _⟩
    · obtain ⟨rfl, rfl⟩ : r = 65533 ∧ k = 1 := by cases he; exact ⟨rfl, rfl⟩
      have HS := Lib.hid (fun w => size_any j1 w _ rfl ⟨by omega, by omega⟩)
      have d5 : (sizeZ j1 != 2) = true := by simpa using hs
      generalize sizeZ j1 = s at *
      clear hs he
      go_enter Tryz.func198, Tryz.ntmps198
      go_wp2_with (go_at_call 239; refine (HT.out _).mono ?_; rintro e w' ⟨rfl, rfl⟩)
      go_quiet (fail)
      go_wp2_with (first | (go_at_call 240; refine (J1.out _).mono ?_; rintro e w' ⟨rfl, rfl⟩) | (go_at_call 241; refine (HS.out _).mono ?_; rintro e w' ⟨rfl, rfl⟩))
      go_ret2
      exact ⟨rfl, (AnyLater.refl _).drewN _⟩
  · obtain rfl : 3 = t := e.symm.trans ht
    have hn3 : 3 ≤ n := by have := hok.2; omega
    have cc1 := C1.out (by omega)
    have cc2 := C2.out (by omega)
    have g1 := hg.c3
    have e2 := k3 i1 i2
    have HTW := told_three (b := x1) (c := x2) (d := x3) i1 i2 hn3
    rw [hc] at HTW
    clear hc ht e k0 k2 k3 k4 hg hok
    have jb1 := joinZ_le (r := (a - 224)) (x := x1) (m := 15) (by omega) (by omega)
    generalize hj1 : joinZ (a - 224) x1 = j1 at *
    have jb2 := joinZ_le (r := j1) (x := x2) (m := 1023) (by omega) (by omega)
    generalize hj2 : joinZ j1 x2 = j2 at *
    rcases HTW with ⟨hs, he⟩ | ⟨hs, he⟩
    · obtain ⟨rfl, rfl⟩ : r = j2 ∧ k = 3 := by cases he; exact ⟨rfl, rfl⟩
      have HS := Lib.hid (fun w => size_any r w 3 hs ⟨by omega, by omega⟩)
      clear hs he
      go_enter Tryz.func198, Tryz.ntmps198
      go_wp2_with (go_at_call 239; refine (HT.out _).mono ?_; rintro e w' ⟨rfl, rfl⟩)
      go_quiet (fail)
      go_wp2_with (first | (go_at_call 240; refine (ujoin_any _ _ _ _ (by assumption) ⟨by omega, by omega⟩ ⟨by omega, by omega⟩).mono ?_; rintro e w' ⟨rfl, rfl⟩) | (go_at_call 241; refine (HS.out _).mono ?_; rintro e w' ⟨rfl, rfl⟩))
      go_ret2
      exact ⟨rfl, (AnyLater.refl _).drewN _⟩
    · obtain ⟨rfl, rfl⟩ : r = 65533 ∧ k = 1 := by cases he; exact ⟨rfl, rfl⟩
      have HS := Lib.hid (fun w => size_any j2 w _ rfl ⟨by omega, by omega⟩)
      have d5 : (sizeZ j2 != 3) = true := by simpa using hs
      generalize sizeZ j2 = s at *
      clear hs he
      go_enter Tryz.func198, Tryz.ntmps198
      go_wp2_with (go_at_call 239; refine (HT.out _).mono ?_; rintro e w' ⟨rfl, rfl⟩)
      go_quiet (fail)
      go_wp2_with (first | (go_at_call 240; refine (ujoin_any _ _ _ _ (by assumption) ⟨by omega, by omega⟩ ⟨by omega, by omega⟩).mono ?_; rintro e w' ⟨rfl, rfl⟩) | (go_at_call 241; refine (HS.out _).mono ?_; rintro e w' ⟨rfl, rfl⟩))
      go_ret2
      exact ⟨rfl, (AnyLater.refl _).drewN _⟩
  · obtain rfl : 4 = t := e.symm.trans ht
    have hn4 : 4 ≤ n := by have := hok.2; omega
    have cc1 := C1.out (by omega)
    have cc2 := C2.out (by omega)
    have cc3 := C3.out (by omega)
    have g1 := hg.c4
    have e2 := k4 i1 i2
    have HTW := told_four (b := x1) (c := x2) (d := x3) i1 i2 hn4
    rw [hc] at HTW
    clear hc ht e k0 k2 k3 k4 hg hok
    have jb1 := joinZ_le (r := (a - 240)) (x := x1) (m := 7) (by omega) (by omega)
    generalize hj1 : joinZ (a - 240) x1 = j1 at *
    have jb2 := joinZ_le (r := j1) (x := x2) (m := 511) (by omega) (by omega)
    generalize hj2 : joinZ j1 x2 = j2 at *
    have jb3 := joinZ_le (r := j2) (x := x3) (m := 32767) (by omega) (by omega)
    generalize hj3 : joinZ j2 x3 = j3 at *
    rcases HTW with ⟨hs, he⟩ | ⟨hs, he⟩
    · obtain ⟨rfl, rfl⟩ : r = j3 ∧ k = 4 := by cases he; exact ⟨rfl, rfl⟩
      have HS := Lib.hid (fun w => size_any r w 4 hs ⟨by omega, by omega⟩)
      clear hs he
      go_enter Tryz.func198, Tryz.ntmps198
      go_wp2_with (go_at_call 239; refine (HT.out _).mono ?_; rintro e w' ⟨rfl, rfl⟩)
      go_quiet (fail)
      go_wp2_with (first | (go_at_call 240; refine (ujoin_any _ _ _ _ (by assumption) ⟨by omega, by omega⟩ ⟨by omega, by omega⟩).mono ?_; rintro e w' ⟨rfl, rfl⟩) | (go_at_call 241; refine (HS.out _).mono ?_; rintro e w' ⟨rfl, rfl⟩))
      go_ret2
      exact ⟨rfl, (AnyLater.refl _).drewN _⟩
    · obtain ⟨rfl, rfl⟩ : r = 65533 ∧ k = 1 := by cases he; exact ⟨rfl, rfl⟩
      have HS := Lib.hid (fun w => size_any j3 w _ rfl ⟨by omega, by omega⟩)
      have d5 : (sizeZ j3 != 4) = true := by simpa using hs
      generalize sizeZ j3 = s at *
      clear hs he
      go_enter Tryz.func198, Tryz.ntmps198
      go_wp2_with (go_at_call 239; refine (HT.out _).mono ?_; rintro e w' ⟨rfl, rfl⟩)
      go_quiet (fail)
      go_wp2_with (first | (go_at_call 240; refine (ujoin_any _ _ _ _ (by assumption) ⟨by omega, by omega⟩ ⟨by omega, by omega⟩).mono ?_; rintro e w' ⟨rfl, rfl⟩) | (go_at_call 241; refine (HS.out _).mono ?_; rintro e w' ⟨rfl, rfl⟩))
      go_ret2
      exact ⟨rfl, (AnyLater.refl _).drewN _⟩
  · exact absurd e hok.1
end Go.Proofs.YtamhnffokoejjaaGreatDoor
namespace Go.Proofs.YtamhnffokoejjaaGreatDoor
set_option linter.unusedSimpArgs false
set_option linter.unusedVariables false
set_option linter.unusedSectionVars false
open Go.RowKit
theorem it_succ (l : List Int) (j : Nat) : it l (j + 1) = it l j + (decU (l.drop (it l j))).2 := rfl
end Go.Proofs.YtamhnffokoejjaaGreatDoor
namespace Go.Proofs.YtamhnffokoejjaaGreatDoor
set_option linter.unusedSimpArgs false
set_option linter.unusedVariables false
set_option linter.unusedSectionVars false
open Go.RowKit
set_option maxRecDepth 100000 in
set_option maxHeartbeats 3200000 in
theorem ucount_any (v : Value) (l : List Int) (c : Nat) (w : World) (hv : RU8 w v l) (hb : Bytes l) (hl : l.length ≤ 1000) (hg : GlobU w) (hc : Cnt l c) :
    Calls Tryz.prog 197 #[v] w fun e w' => e = .returned (.int .i64 (c : Int)) ∧ AnyLater w w' := by
  have HV := Lib.hid hv
  obtain ⟨A, cap, rfl, hcap⟩ := hv.form
  obtain ⟨L, hL⟩ : ∃ L, l.length = L := ⟨_, rfl⟩
  have HLL := Lib.hid hL
  have HB := Lib.hid hb
  have HG := Lib.hid hg
  have HC := Lib.hid hc
  have hcl := hc.le hb
  have HLE := Lib.hid (fun j => it_le hb j)
  rw [hL] at hl hcap hcl HLE HV ⊢
  clear hv hL hb hg hc
  go_enter Tryz.func197, Tryz.ntmps197
  go_wp2_with fail
  go_loopg [0, 3] c (fun kk sv av wr => AnyLater w wr ∧ ∃ (j m c2 : Nat) (A2 : Option Addr), kk = c - j ∧ j ≤ c ∧ av = .int .i64 j ∧ sv = .slice A2 m c2 ∧ m + it l j = L ∧ RU8 w (.slice A2 m c2) (l.drop (it l j)))
  case atStart => exact ⟨AnyLater.refl w, 0, L, cap, A, by omega, by omega, rfl, rfl, rfl, HV.out⟩
  case round =>
    obtain ⟨a_wr, j, m, c2, A2, hk, hj, rfl, rfl, hm, hr⟩ := hrel
    have HA := Lib.hid a_wr
    have HR := Lib.hid hr
    obtain ⟨p, hp⟩ : ∃ p, it l j = p := ⟨_, rfl⟩
    have HP := Lib.hid hp
    rw [hp] at hm HR
    by_cases hlt : 0 < m
    · have hjc : j < c := (HC.out.end_iff hj).1 (by rw [HLL.out, hp]; omega)
      obtain ⟨r, k, hdec⟩ : ∃ r k, decU (l.drop p) = (r, k) := ⟨_, _, rfl⟩
      have hlk := dec_len (HB.out.drop p)
      rw [hdec, List.length_drop, HLL.out] at hlk
      have hk1 := hlk.1
      have hpm : L - p = m := by omega
      obtain ⟨u, hu, hcut⟩ := HR.out.cut k (by rw [List.length_drop, HLL.out]; exact hk1)
      obtain ⟨A3, c3, rfl, h3⟩ := hu.form
      have hl3 : ((l.drop p).drop k).length = m - k := by rw [List.length_drop, List.length_drop, HLL.out]; omega
      rw [hl3] at hu hcut h3
      rw [List.drop_drop] at hu
      have HIT : Hid (it l (j + 1) = p + k) := Lib.hid (by rw [it_succ, hp, hdec])
      have HU := Lib.hid hu
      have HD : Hid (Calls Tryz.prog 198 #[.slice A2 m c2] wr fun e w'' => e = .returned (.tuple #[.int .i32 r, .int .i64 (k : Int)]) ∧ AnyLater wr w'') := Lib.hid (dec_any _ (l.drop p) wr r k hdec (HR.out.later a_wr) (HB.out.drop p) (by rw [List.length_drop, HLL.out]; omega) (HG.out.later a_wr))
      simp only at hk1
      rw [hpm] at hk1
      clear hu hdec hlk a_wr hp hr hl3 hpm
      go_wp2_with fail
      refine HD.out.mono ?_
      rintro e w3 ⟨rfl, b3⟩
      have HA3 := Lib.hid (HA.out.trans b3)
      clear b3
      go_wp2_with fail
      go_roundg (c - (j + 1))
      case measure => omega
      case rel => exact ⟨HA3.out, j + 1, m - k, c3, A3, rfl, by omega, by go_num, rfl, by rw [HIT.out]; omega, by rw [HIT.out]; exact HU.out⟩
    · have hjc : j = c := by
        rcases Nat.lt_or_ge j c with h | h
        · have := HC.out.lt j h; rw [HP.out, HLL.out] at this; omega
        · omega
      subst hjc
      clear a_wr hp hr
      go_wp2_with fail
      go_ret
      exact ⟨rfl, HA.out⟩
end Go.Proofs.YtamhnffokoejjaaGreatDoor
