/- fault: errors.as, the loop within errors.As, at the other two targets. -/
import Derived.Test.YtfocpgnhbabeiaaDoorFaultB
namespace Go.Proofs.YtfocpgnhbabeiaaDoor
set_option linter.unusedSimpArgs false
set_option linter.unusedVariables false
set_option linter.unusedSectionVars false
open Go.RowKit Go.Extern.Stop Go.Stop Go.Extern

set_option maxHeartbeats 1000000 in
theorem as_code_F (c : Int) (t : Nat) (v : Nat) (w : World) :
    Calls Tryd.prog 32 #[.iface 23 (.int .i64 c), .iface 43 (.pointer (some ⟨t, 0, none⟩)), .agg #[.pointer (some ⟨1, 43, none⟩), .pointer (some ⟨v, 0, none⟩), .int .u64 150], .iface 73 (.agg #[.pointer (some ⟨1, 41, none⟩)])] w fun e w' => e = .returned (.bool false) ∧ AnyLater w w' := by
  have xO := @run_callFunc_extern Tryd.prog 27 _ ReflectliteType.typeOf Tryd.func27 (by kernel_rfl) (by kernel_rfl) (by kernel_rfl) (by kernel_rfl)
  have xA := @run_callFunc_extern Tryd.prog 63 _ (ReflectliteType.relation "AssignableTo" ReflectliteType.assignableTo) Tryd.func63 (by kernel_rfl) (by kernel_rfl) (by kernel_rfl) (by kernel_rfl)
  have tO := typeOfCode
  have mA := methodAssignableTo
  have aS := assignCodeF
  have lA := lacksAsCode
  have lU := lacksUnwrapCode
  have lV := lacksUnwrapsCode
  have HL := Lib.hid ((AnyLater.refl w).alloc (.cells #[.pointer (some ⟨1, 43, none⟩), .pointer (some ⟨v, 0, none⟩), .int .u64 150] 63))
  go_enter Tryd.func32, Tryd.ntmps32
  go_wp2
  refine wp_loop_rounds 1 ?_
  rw [rounds_succ]
  go_wp2
  go_ret
  exact ⟨rfl, HL.out⟩

set_option maxHeartbeats 1000000 in
theorem as_fault_F (b t v : Nat) (old : Value) (w : World) (hv : w.cell? ⟨v, 0, none⟩ = some (.pointer (some ⟨t, 0, none⟩))) (ht : w.cell? ⟨t, 0, none⟩ = some old) (hf : w.frozen? ⟨t, 0, none⟩ = false) :
    Calls Tryd.prog 32 #[.iface 41 (.pointer (some ⟨b, 0, none⟩)), .iface 43 (.pointer (some ⟨t, 0, none⟩)), .agg #[.pointer (some ⟨1, 43, none⟩), .pointer (some ⟨v, 0, none⟩), .int .u64 150], .iface 73 (.agg #[.pointer (some ⟨1, 41, none⟩)])] w fun e w' => e = .returned (.bool true) ∧ AnyLater (w.setCell ⟨t, 0, none⟩ (.pointer (some ⟨b, 0, none⟩))) w' := by
  have xO := @run_callFunc_extern Tryd.prog 27 _ ReflectliteType.typeOf Tryd.func27 (by kernel_rfl) (by kernel_rfl) (by kernel_rfl) (by kernel_rfl)
  have xA := @run_callFunc_extern Tryd.prog 63 _ (ReflectliteType.relation "AssignableTo" ReflectliteType.assignableTo) Tryd.func63 (by kernel_rfl) (by kernel_rfl) (by kernel_rfl) (by kernel_rfl)
  have xL := @run_callFunc_extern Tryd.prog 35 _ (ReflectliteValue.method (ReflectliteValue.valueError "reflectlite.Value.Elem" 0) ReflectliteValue.elem) Tryd.func35 (by kernel_rfl) (by kernel_rfl) (by kernel_rfl) (by kernel_rfl)
  have xS := @run_callFunc_extern Tryd.prog 36 _ ReflectliteValue.set Tryd.func36 (by kernel_rfl) (by kernel_rfl) (by kernel_rfl) (by kernel_rfl)
  have xV := @run_callFunc_extern Tryd.prog 29 _ (fun args => ReflectliteValue.unpack (args.getD 0 (.tuple #[]))) Tryd.func29 (by kernel_rfl) (by kernel_rfl) (by kernel_rfl) (by kernel_rfl)
  have tO := typeOfFault
  have mA := methodAssignableTo
  have aS := assignFaultF
  have vE := valueOfEF
  have ltv : v < w.heap.size := World.block_lt_of_cell? _ _ hv
  have ltt : t < w.heap.size := World.block_lt_of_cell? _ _ ht
  have el := elemVF ⟨v, 0, none⟩ ⟨t, 0, none⟩ (w.alloc (.cells #[.pointer (some ⟨1, 43, none⟩), .pointer (some ⟨v, 0, none⟩), .int .u64 150] 63)) (by rw [World.cell?_alloc_lt _ _ _ ltv]; exact hv)
  have st := setF ⟨t, 0, none⟩ ⟨w.heap.size + 1, 0, none⟩ ⟨b, 0, none⟩ old ((w.alloc (.cells #[.pointer (some ⟨1, 43, none⟩), .pointer (some ⟨v, 0, none⟩), .int .u64 150] 63)).alloc (.cells #[.pointer (some ⟨b, 0, none⟩)] 41)) (by rw [World.cell?_alloc_at _ _ _ _ (by simp)]; rfl)
    (by rw [World.cell?_alloc_lt _ _ _ (by simp only [World.size_alloc]; (try dsimp only); omega), World.cell?_alloc_lt _ _ _ ltt]; exact ht) (by rw [World.frozen?_alloc_old _ _ _ (by simp only [World.size_alloc]; (try dsimp only); omega), World.frozen?_alloc_old _ _ _ (by simp only [World.size_alloc]; (try dsimp only); omega)]; exact hf)
  have HW := Lib.hid (((AnyLater.refl (w.setCell ⟨t, 0, none⟩ (.pointer (some ⟨b, 0, none⟩)))).alloc (.cells #[.pointer (some ⟨1, 43, none⟩), .pointer (some ⟨v, 0, none⟩), .int .u64 150] 63)).alloc (.cells #[.pointer (some ⟨b, 0, none⟩)] 41))
  clear hv ht hf
  go_enter Tryd.func32, Tryd.ntmps32
  go_wp2
  refine wp_loop_rounds 1 ?_
  rw [rounds_succ]
  go_wp2
  go_ret
  exact ⟨rfl, HW.out⟩

set_option maxHeartbeats 2000000 in
/-- errors.as at a target of type *Code: the chain is followed to its code. -/
theorem as_C (ps : List Int) (c : Int) (e : Value) (t v : Nat) (old : Value) (w : World) (hc : Chain w ps c e) (hv : w.cell? ⟨v, 0, none⟩ = some (.pointer (some ⟨t, 0, none⟩))) (ht : w.cell? ⟨t, 0, none⟩ = some old) (hf : w.frozen? ⟨t, 0, none⟩ = false) :
    Calls Tryd.prog 32 #[e, .iface 70 (.pointer (some ⟨t, 0, none⟩)), .agg #[.pointer (some ⟨1, 70, none⟩), .pointer (some ⟨v, 0, none⟩), .int .u64 150], .iface 73 (.agg #[.pointer (some ⟨1, 23, none⟩)])] w fun e w' => e = .returned (.bool true) ∧ AnyLater (w.setCell ⟨t, 0, none⟩ (.int .i64 c)) w' := by
  have xO := @run_callFunc_extern Tryd.prog 27 _ ReflectliteType.typeOf Tryd.func27 (by kernel_rfl) (by kernel_rfl) (by kernel_rfl) (by kernel_rfl)
  have xA := @run_callFunc_extern Tryd.prog 63 _ (ReflectliteType.relation "AssignableTo" ReflectliteType.assignableTo) Tryd.func63 (by kernel_rfl) (by kernel_rfl) (by kernel_rfl) (by kernel_rfl)
  have xL := @run_callFunc_extern Tryd.prog 35 _ (ReflectliteValue.method (ReflectliteValue.valueError "reflectlite.Value.Elem" 0) ReflectliteValue.elem) Tryd.func35 (by kernel_rfl) (by kernel_rfl) (by kernel_rfl) (by kernel_rfl)
  have xS := @run_callFunc_extern Tryd.prog 36 _ ReflectliteValue.set Tryd.func36 (by kernel_rfl) (by kernel_rfl) (by kernel_rfl) (by kernel_rfl)
  have xV := @run_callFunc_extern Tryd.prog 29 _ (fun args => ReflectliteValue.unpack (args.getD 0 (.tuple #[]))) Tryd.func29 (by kernel_rfl) (by kernel_rfl) (by kernel_rfl) (by kernel_rfl)
  have tO := typeOfFault
  have tC := typeOfCode
  have mA := methodAssignableTo
  have aF := assignFaultC
  have aC := assignCodeC
  have lA := lacksAsFault
  have lU := hasUnwrapFault
  have mU := methodUnwrap
  have vE := valueOfEC
  have ltv : v < w.heap.size := World.block_lt_of_cell? _ _ hv
  have ltt : t < w.heap.size := World.block_lt_of_cell? _ _ ht
  have HC := Lib.hid hc
  have HO := Lib.hid (And.intro hv (And.intro ht hf))
  clear hc hv ht hf
  go_enter Tryd.func32, Tryd.ntmps32
  go_wp2
  go_loopg [0] ps.length (fun k e1 wr => ∃ qs, k = qs.length ∧ Chain w qs c e1 ∧ wr = w.alloc (.cells #[.pointer (some ⟨1, 70, none⟩), .pointer (some ⟨v, 0, none⟩), .int .u64 150] 63))
  case atStart => exact ⟨ps, rfl, HC.out, rfl⟩
  case round =>
    obtain ⟨qs, hk, hq, rfl⟩ := hrel
    cases qs with
    | nil =>
      obtain rfl := hq
      obtain ⟨hv, ht, hf⟩ := HO.out
      have el := elemVC ⟨v, 0, none⟩ ⟨t, 0, none⟩ (w.alloc (.cells #[.pointer (some ⟨1, 70, none⟩), .pointer (some ⟨v, 0, none⟩), .int .u64 150] 63)) (by rw [World.cell?_alloc_lt _ _ _ ltv]; exact hv)
      have st := setC ⟨t, 0, none⟩ ⟨w.heap.size + 1, 0, none⟩ c old ((w.alloc (.cells #[.pointer (some ⟨1, 70, none⟩), .pointer (some ⟨v, 0, none⟩), .int .u64 150] 63)).alloc (.cells #[.int .i64 c] 23)) (by rw [World.cell?_alloc_at _ _ _ _ (by simp)]; rfl)
        (by rw [World.cell?_alloc_lt _ _ _ (by simp only [World.size_alloc]; omega), World.cell?_alloc_lt _ _ _ ltt]; exact ht) (by rw [World.frozen?_alloc_old _ _ _ (by simp only [World.size_alloc]; (try dsimp only); omega), World.frozen?_alloc_old _ _ _ (by simp only [World.size_alloc]; (try dsimp only); omega)]; exact hf)
      have HW := Lib.hid (((AnyLater.refl (w.setCell ⟨t, 0, none⟩ (.int .i64 c))).alloc (.cells #[.pointer (some ⟨1, 70, none⟩), .pointer (some ⟨v, 0, none⟩), .int .u64 150] 63)).alloc (.cells #[.int .i64 c] 23))
      clear hv ht hf
      go_wp2
      go_ret
      exact ⟨rfl, HW.out⟩
    | cons q qs =>
      obtain ⟨b, e', rfl, hb, hq⟩ := hq
      obtain ⟨tq, vq, rfl⟩ := hq.iface
      have hlt := own_lt hb
      have c1 : (w.alloc (.cells #[.pointer (some ⟨1, 70, none⟩), .pointer (some ⟨v, 0, none⟩), .int .u64 150] 63)).cell? ⟨b, 1, none⟩ = some (.iface tq vq) := by rw [World.cell?_alloc_lt _ _ _ hlt]; exact own_row hb 1
      have HQ := Lib.hid hq
      clear hb hq
      go_wp2
      go_roundg qs.length
      case measure => subst hk; simp
      case rel => exact ⟨qs, rfl, HQ.out, rfl⟩
end Go.Proofs.YtfocpgnhbabeiaaDoor
