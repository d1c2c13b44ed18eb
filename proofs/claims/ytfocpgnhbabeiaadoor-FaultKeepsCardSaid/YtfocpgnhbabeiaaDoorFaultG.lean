/- fault: count and Depth, how many errors there are in one another. -/
import Derived.Test.YtfocpgnhbabeiaaDoorFaultF
namespace Go.Proofs.YtfocpgnhbabeiaaDoor
set_option linter.unusedSimpArgs false
set_option linter.unusedVariables false
set_option linter.unusedSectionVars false
open Go.RowKit Go.Extern.Stop Go.Stop Go.Extern

theorem ret_tup {a b : Int} {x : Value} (h : a = b) : Ending.returned (.tuple #[.int .i64 a, x]) = .returned (.tuple #[.int .i64 b, x]) := by rw [h]
theorem count_nil (lv : Int) (w : World) :
    Calls Tryd.prog 26 #[.nilIface, .int .i64 lv] w fun e w' => e = .returned (.tuple #[.int .i64 0, .bool true]) ∧ w = w' := by
  go_enter Tryd.func26, Tryd.ntmps26
  go_wp2_with fail
  go_ret2
  exact ⟨rfl, rfl⟩
theorem count_chain (ps : List Int) : ∀ (c lv : Int) (er : Value) (w : World), Chain w ps c er → 0 ≤ lv → lv + ps.length < 131072 →
    Calls Tryd.prog 26 #[er, .int .i64 lv] w fun e w' => e = .returned (.tuple #[.int .i64 (ps.length + 1), .bool true]) ∧ AnyLater w w' := by
  induction ps with
  | nil =>
    intro c lv er w hc h0 h1
    obtain rfl := hc
    have hlv : (lv == 131072) = false := by simp at h1 ⊢; omega
    simp only [List.length_nil] at h1
    go_enter Tryd.func26, Tryd.ntmps26
    go_wp2_with fail
    refine (below_code _ _).mono ?_
    rintro e w1 ⟨rfl, hw⟩
    have HW := Lib.hid hw
    clear hw
    go_wp2_with fail
    refine wp_loop_rounds 1 ?_
    rw [rounds_succ]
    go_wp2_with fail
    go_ret2
    exact ⟨rfl, HW.out⟩
  | cons p ps ih =>
    intro c lv er w hc h0 h1
    obtain ⟨b, e', rfl, hb, hq⟩ := hc
    have hlv : (lv == 131072) = false := by simp at h1 ⊢; omega
    have C1 := Lib.hid (below_fault b p e' w hb hq.iface)
    simp only [List.length_cons] at h1
    have HQ := Lib.hid hq
    clear hb hq
    go_enter Tryd.func26, Tryd.ntmps26
    go_wp2_with fail
    refine C1.out.mono ?_
    rintro e w1 ⟨k, rfl, hk, hw⟩
    have c0 : w1.cell? ⟨k, 0, none⟩ = some e' := own_row hk 0
    have C2 := Lib.hid (ih c (lv + 1) e' w1 (HQ.out.later hw) (by omega) (by omega))
    have HW := Lib.hid hw
    clear hw hk
    go_wp2_with fail
    refine wp_loop_rounds 2 ?_
    rw [rounds_succ]
    go_wp2_with fail
    refine C2.out.mono ?_
    rintro e w2 ⟨rfl, hw⟩
    have HW2 := Lib.hid hw
    clear hw
    go_wp2_with fail
    rw [rounds_succ]
    go_wp2_with fail
    go_ret2
    exact ⟨ret_tup (by omega), HW.out.trans HW2.out⟩
theorem depth_chain (ps : List Int) (c : Int) (er : Value) (w : World) (hc : Chain w ps c er) (h1 : ps.length < 131072) :
    Calls Tryd.prog 12 #[er] w fun e w' => e = .returned (.int .i64 (ps.length + 1)) ∧ AnyLater w w' := by
  have C := Lib.hid (count_chain ps c 0 er w hc (by omega) (by omega))
  clear hc
  go_enter Tryd.func12, Tryd.ntmps12
  go_wp2_with fail
  refine C.out.mono ?_
  rintro e w1 ⟨rfl, hw⟩
  have HW := Lib.hid hw
  clear hw
  go_wp2_with fail
  go_ret
  exact ⟨rfl, HW.out⟩
theorem depth_nil (w : World) :
    Calls Tryd.prog 12 #[.nilIface] w fun e w' => e = .returned (.int .i64 0) ∧ w = w' := by
  go_enter Tryd.func12, Tryd.ntmps12
  go_wp2_with fail
  refine (count_nil _ _).mono ?_
  rintro e w1 ⟨rfl, rfl⟩
  go_wp2_with fail
  go_ret
  exact ⟨rfl, rfl⟩
end Go.Proofs.YtfocpgnhbabeiaaDoor
