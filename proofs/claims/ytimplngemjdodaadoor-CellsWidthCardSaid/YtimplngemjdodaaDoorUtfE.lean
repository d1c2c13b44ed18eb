/- utf: the first byte of a rune: by contract. -/
import Derived.Test.YtimplngemjdodaaDoorUtfD
namespace Go.Proofs.YtimplngemjdodaaDoor
set_option linter.unusedSimpArgs false
set_option linter.unusedVariables false
set_option linter.unusedSectionVars false
open Go.RowKit
theorem told_lead {a : Int} (h1 : 0 ≤ a) (h2 : a ≤ 255) : (8 - len8Z (255 - a) = 0 ∧ toldZ a = 1) ∨ (8 - len8Z (255 - a) = 2 ∧ toldZ a = 2) ∨ (8 - len8Z (255 - a) = 3 ∧ toldZ a = 3) ∨ (8 - len8Z (255 - a) = 4 ∧ toldZ a = 4) ∨
    (toldZ a = 0 ∧ 8 - len8Z (255 - a) ≠ 0 ∧ 8 - len8Z (255 - a) ≠ 2 ∧ 8 - len8Z (255 - a) ≠ 3 ∧ 8 - len8Z (255 - a) ≠ 4) := by
  unfold len8Z toldZ
  repeat' (first | omega | split)
theorem xor_get : ∀ j : Fin 256, bits .xor .u8 IntKind.u8.max (j.1 : Int) = 255 - (j.1 : Int) := by decide +kernel
theorem xor_max {a : Int} (h1 : 0 ≤ a) (h2 : a ≤ 255) : bits .xor .u8 IntKind.u8.max a = 255 - a := by
  have h := xor_get ⟨a.toNat, by omega⟩
  have e : ((a.toNat : Nat) : Int) = a := by omega
  simpa only [e] using h
set_option maxRecDepth 100000 in
set_option maxHeartbeats 3200000 in
theorem told_any (a : Int) (w : World) (c : Int) (hc : toldZ a = c) (ha : 0 ≤ a ∧ a ≤ 255) : Calls Tryd.prog 40 #[.int .u8 a] w fun e w' => e = .returned (.int .i64 c) ∧ w = w' := by
  obtain ⟨h1, h2⟩ := ha
  have H1 := Lib.hid (fun w => lead8_any (255 - a) w _ rfl ⟨by omega, by omega⟩)
  have ht := told_lead h1 h2
  rw [hc] at ht
  have hb := len8Z_in (255 - a)
  have hxm := xor_max h1 h2
  have hsg : IntKind.u8.signed = false := rfl
  generalize hz : 8 - len8Z (255 - a) = z at *
  have hzb : 0 ≤ z ∧ z ≤ 8 := by omega
  clear hc hb hz
  rcases ht with ⟨rfl, rfl⟩ | ⟨rfl, rfl⟩ | ⟨rfl, rfl⟩ | ⟨rfl, rfl⟩ | ⟨rfl, n0, n2, n3, n4⟩
  · go_enter Tryd.func40, Tryd.ntmps40
    go_wp2_with (go_at_call 50; refine (H1.out _).mono ?_; rintro e w' ⟨rfl, rfl⟩)
    go_ret
    exact ⟨rfl, rfl⟩
  · go_enter Tryd.func40, Tryd.ntmps40
    go_wp2_with (go_at_call 50; refine (H1.out _).mono ?_; rintro e w' ⟨rfl, rfl⟩)
    go_ret
    exact ⟨rfl, rfl⟩
  · go_enter Tryd.func40, Tryd.ntmps40
    go_wp2_with (go_at_call 50; refine (H1.out _).mono ?_; rintro e w' ⟨rfl, rfl⟩)
    go_ret
    exact ⟨rfl, rfl⟩
  · go_enter Tryd.func40, Tryd.ntmps40
    go_wp2_with (go_at_call 50; refine (H1.out _).mono ?_; rintro e w' ⟨rfl, rfl⟩)
    go_ret
    exact ⟨rfl, rfl⟩
  · have d0 : (z == 0) = false := by simpa using n0
    have d2 : (z == 2) = false := by simpa using n2
    have d3 : (z == 3) = false := by simpa using n3
    have d4 : (z == 4) = false := by simpa using n4
    go_enter Tryd.func40, Tryd.ntmps40
    go_wp2_with (go_at_call 50; refine (H1.out _).mono ?_; rintro e w' ⟨rfl, rfl⟩)
    go_ret
    exact ⟨rfl, rfl⟩
end Go.Proofs.YtimplngemjdodaaDoor
