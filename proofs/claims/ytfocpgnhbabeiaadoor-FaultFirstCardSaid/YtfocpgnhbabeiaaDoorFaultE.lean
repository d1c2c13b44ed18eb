/- fault: errors.Is at the errors that the program makes, asked of a code. -/
import Derived.Test.YtfocpgnhbabeiaaDoorFaultB
namespace Go.Proofs.YtfocpgnhbabeiaaDoor
set_option linter.unusedSimpArgs false
set_option linter.unusedVariables false
set_option linter.unusedSectionVars false
open Go.RowKit Go.Extern.Stop Go.Stop Go.Extern

set_option maxHeartbeats 2000000 in
theorem is_chain (ps : List Int) (c o : Int) (er : Value) (w : World) (r : Bool) (hr : (c == o) = r) (hc : Chain w ps c er) :
    Calls Tryd.prog 28 #[er, .iface 23 (.int .i64 o), .bool true] w fun e w' => e = .returned (.bool r) ∧ w = w' := by
  have q1 := eqlCode
  have q2 := eqlFaultCode
  have l1 := lacksIsFault
  have l2 := lacksIsCode
  have l3 := hasUnwrapFault
  have l4 := lacksUnwrapCode
  have l5 := lacksUnwrapsCode
  have mU := methodUnwrap
  have HC := Lib.hid hc
  have HR := Lib.hid hr
  clear hc hr
  go_enter Tryd.func28, Tryd.ntmps28
  go_wp2
  go_loopg [0] ps.length (fun k e1 wr => w = wr ∧ ∃ qs, k = qs.length ∧ Chain w qs c e1)
  case atStart => exact ⟨rfl, ps, rfl, HC.out⟩
  case round =>
    obtain ⟨rfl, qs, hk, hq⟩ := hrel
    cases qs with
    | nil =>
      obtain rfl := hq
      have hr := HR.out
      cases r with
      | true =>
        go_wp2
        go_ret
        exact ⟨rfl, rfl⟩
      | false =>
        go_wp2
        go_ret
        exact ⟨rfl, rfl⟩
    | cons q qs =>
      obtain ⟨b, e', rfl, hb, hq⟩ := hq
      obtain ⟨tq, vq, rfl⟩ := hq.iface
      have c1 : w.cell? ⟨b, 1, none⟩ = some (.iface tq vq) := own_row hb 1
      have HQ := Lib.hid hq
      clear hb hq
      go_wp2
      go_roundg qs.length
      case measure => subst hk; simp
      case rel => exact ⟨rfl, qs, rfl, HQ.out⟩

theorem callComparable (w : World) : (callFunc 64 #[.agg #[.pointer (some ⟨1, 23, none⟩)]]).run Tryd.prog w = .ok (.value (.bool true)) w := by kernel_rfl
theorem Is_chain (ps : List Int) (c o : Int) (er : Value) (w : World) (r : Bool) (hr : (c == o) = r) (hc : Chain w ps c er) :
    Calls Tryd.prog 16 #[er, .iface 23 (.int .i64 o)] w fun e w' => e = .returned (.bool r) ∧ w = w' := by
  have xO := @run_callFunc_extern Tryd.prog 27 _ ReflectliteType.typeOf Tryd.func27 (by kernel_rfl) (by kernel_rfl) (by kernel_rfl) (by kernel_rfl)
  have tC := typeOfCode
  have mC := methodComparable
  have cC := callComparable
  obtain ⟨tq, vq, rfl⟩ := hc.iface
  have C2 := Lib.hid (is_chain ps c o _ w r hr hc)
  clear hc hr
  go_enter Tryd.func16, Tryd.ntmps16
  go_wp2_with (go_at_call 28; refine C2.out.mono ?_; rintro e w' ⟨rfl, rfl⟩)
  go_ret
  exact ⟨rfl, rfl⟩
theorem Is_nil (o : Int) (w : World) :
    Calls Tryd.prog 16 #[.nilIface, .iface 23 (.int .i64 o)] w fun e w' => e = .returned (.bool false) ∧ w = w' := by
  have hn := run_eql_iface_nil_left (P := Tryd.prog) w 23 (.int .i64 o) Tryd.underlying28
  go_enter Tryd.func16, Tryd.ntmps16
  go_wp2
  go_ret
  exact ⟨rfl, rfl⟩
end Go.Proofs.YtfocpgnhbabeiaaDoor
