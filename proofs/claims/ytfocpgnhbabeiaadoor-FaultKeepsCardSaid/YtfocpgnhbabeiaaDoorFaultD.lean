/- fault: errors.As at the errors and targets that the program makes. -/
import Derived.Test.YtfocpgnhbabeiaaDoorFaultC
namespace Go.Proofs.YtfocpgnhbabeiaaDoor
set_option linter.unusedSimpArgs false
set_option linter.unusedVariables false
set_option linter.unusedSectionVars false
open Go.RowKit Go.Extern.Stop Go.Stop Go.Extern

/-- a store into an old block, ahead of or behind what came later -/
theorem AnyLater.wrote {w w2 w' : World} {t : Addr} {v : Value} (h : AnyLater w w2) (k : AnyLater (w2.setCell t v) w') : AnyLater (w.setCell t v) w' := by
  refine AnyLater.trans (b := w2.setCell t v) (.of ⟨h.below.os, h.below.tape, h.below.output, ?_, ?_⟩) k
  · rw [World.size_setCell, World.size_setCell]; exact h.below.size
  · intro j hj
    rw [World.size_setCell] at hj
    have := h.below.block j hj
    simp only [World.setCell, Array.getElem?_modify]
    rw [this]

set_option maxHeartbeats 1000000 in
theorem As_code_S (c : Int) (t : Nat) (w : World) :
    Calls Tryd.prog 17 #[.iface 23 (.int .i64 c), .iface 90 (.pointer (some ⟨t, 0, none⟩))] w fun e w' => e = .returned (.bool false) ∧ AnyLater w w' := by
  have xV := @run_callFunc_extern Tryd.prog 29 _ (fun args => ReflectliteValue.unpack (args.getD 0 (.tuple #[]))) Tryd.func29 (by kernel_rfl) (by kernel_rfl) (by kernel_rfl) (by kernel_rfl)
  have xT := @run_callFunc_extern Tryd.prog 30 _ (ReflectliteValue.methodAny (ReflectliteValue.valueError "reflectlite.Value.Type" 0) (fun t _ _ _ => ReflectliteType.toType t)) Tryd.func30 (by kernel_rfl) (by kernel_rfl) (by kernel_rfl) (by kernel_rfl)
  have xN := @run_callFunc_extern Tryd.prog 31 _ (ReflectliteValue.method (ReflectliteValue.valueError "reflectlite.Value.IsNil" 0) ReflectliteValue.isNil) Tryd.func31 (by kernel_rfl) (by kernel_rfl) (by kernel_rfl) (by kernel_rfl)
  have xK := @run_callFunc_extern Tryd.prog 53 _ (ReflectliteType.abiMethod fun t => do pure (.int .u8 (← Rtype.kind t))) Tryd.func53 (by kernel_rfl) (by kernel_rfl) (by kernel_rfl) (by kernel_rfl)
  have xE := @run_callFunc_extern Tryd.prog 65 _ (ReflectliteType.method ReflectliteType.elem) Tryd.func65 (by kernel_rfl) (by kernel_rfl) (by kernel_rfl) (by kernel_rfl)
  have f1 := valueOfS
  have f2 := typeS
  have f3 := kindS
  have f4 := kindES
  have f5 := elemS
  have m1 := methodKind
  have m2 := methodElem
  have n8 := isNilS ⟨w.heap.size, 0, none⟩ ⟨t, 0, none⟩ ((w.alloc (.cells #[.pointer (some ⟨t, 0, none⟩)] 90)).alloc (.cells #[.pointer (some ⟨1, 90, none⟩), .pointer (some ⟨w.heap.size, 0, none⟩), .int .u64 150] 63)) (by simp)
  have HL := Lib.hid (((AnyLater.refl w).alloc (.cells #[.pointer (some ⟨t, 0, none⟩)] 90)).alloc (.cells #[.pointer (some ⟨1, 90, none⟩), .pointer (some ⟨w.heap.size, 0, none⟩), .int .u64 150] 63))
  go_enter Tryd.func17, Tryd.ntmps17
  go_wp2_with (go_at_call 32; refine (as_code_S _ _ _ _).mono ?_; rintro e w' ⟨rfl, hw⟩)
  have HW := Lib.hid hw
  clear hw
  go_wp2
  go_ret
  exact ⟨rfl, HL.out.trans HW.out⟩

set_option maxHeartbeats 1000000 in
theorem As_code_F (c : Int) (t : Nat) (w : World) (hg : Glob w) :
    Calls Tryd.prog 17 #[.iface 23 (.int .i64 c), .iface 43 (.pointer (some ⟨t, 0, none⟩))] w fun e w' => e = .returned (.bool false) ∧ AnyLater w w' := by
  have xV := @run_callFunc_extern Tryd.prog 29 _ (fun args => ReflectliteValue.unpack (args.getD 0 (.tuple #[]))) Tryd.func29 (by kernel_rfl) (by kernel_rfl) (by kernel_rfl) (by kernel_rfl)
  have xT := @run_callFunc_extern Tryd.prog 30 _ (ReflectliteValue.methodAny (ReflectliteValue.valueError "reflectlite.Value.Type" 0) (fun t _ _ _ => ReflectliteType.toType t)) Tryd.func30 (by kernel_rfl) (by kernel_rfl) (by kernel_rfl) (by kernel_rfl)
  have xN := @run_callFunc_extern Tryd.prog 31 _ (ReflectliteValue.method (ReflectliteValue.valueError "reflectlite.Value.IsNil" 0) ReflectliteValue.isNil) Tryd.func31 (by kernel_rfl) (by kernel_rfl) (by kernel_rfl) (by kernel_rfl)
  have xK := @run_callFunc_extern Tryd.prog 53 _ (ReflectliteType.abiMethod fun t => do pure (.int .u8 (← Rtype.kind t))) Tryd.func53 (by kernel_rfl) (by kernel_rfl) (by kernel_rfl) (by kernel_rfl)
  have xE := @run_callFunc_extern Tryd.prog 65 _ (ReflectliteType.method ReflectliteType.elem) Tryd.func65 (by kernel_rfl) (by kernel_rfl) (by kernel_rfl) (by kernel_rfl)
  have xI := @run_callFunc_extern Tryd.prog 66 _ (ReflectliteType.relation "Implements" ReflectliteType.implements_) Tryd.func66 (by kernel_rfl) (by kernel_rfl) (by kernel_rfl) (by kernel_rfl)
  have f1 := valueOfF
  have f2 := typeF
  have f3 := kindF
  have f4 := kindEF
  have f5 := elemF
  have f6 := implementsF
  have m1 := methodKind
  have m2 := methodElem
  have m3 := methodImplements
  have n8 := isNilF ⟨w.heap.size, 0, none⟩ ⟨t, 0, none⟩ ((w.alloc (.cells #[.pointer (some ⟨t, 0, none⟩)] 43)).alloc (.cells #[.pointer (some ⟨1, 43, none⟩), .pointer (some ⟨w.heap.size, 0, none⟩), .int .u64 150] 63)) (by simp)
  have HL := Lib.hid (((AnyLater.refl w).alloc (.cells #[.pointer (some ⟨t, 0, none⟩)] 43)).alloc (.cells #[.pointer (some ⟨1, 43, none⟩), .pointer (some ⟨w.heap.size, 0, none⟩), .int .u64 150] 63))
  have hg2 : _ = _ := hg.later HL.out
  clear hg
  go_enter Tryd.func17, Tryd.ntmps17
  go_wp2_with (go_at_call 32; refine (as_code_F _ _ _ _).mono ?_; rintro e w' ⟨rfl, hw⟩)
  have HW := Lib.hid hw
  clear hw
  go_wp2
  go_ret
  exact ⟨rfl, HL.out.trans HW.out⟩

set_option maxHeartbeats 1000000 in
theorem As_fault_F (b t : Nat) (old : Value) (w : World) (hg : Glob w) (ht : w.cell? ⟨t, 0, none⟩ = some old) (hf : w.frozen? ⟨t, 0, none⟩ = false) :
    Calls Tryd.prog 17 #[.iface 41 (.pointer (some ⟨b, 0, none⟩)), .iface 43 (.pointer (some ⟨t, 0, none⟩))] w fun e w' => e = .returned (.bool true) ∧ AnyLater (w.setCell ⟨t, 0, none⟩ (.pointer (some ⟨b, 0, none⟩))) w' := by
  have xV := @run_callFunc_extern Tryd.prog 29 _ (fun args => ReflectliteValue.unpack (args.getD 0 (.tuple #[]))) Tryd.func29 (by kernel_rfl) (by kernel_rfl) (by kernel_rfl) (by kernel_rfl)
  have xT := @run_callFunc_extern Tryd.prog 30 _ (ReflectliteValue.methodAny (ReflectliteValue.valueError "reflectlite.Value.Type" 0) (fun t _ _ _ => ReflectliteType.toType t)) Tryd.func30 (by kernel_rfl) (by kernel_rfl) (by kernel_rfl) (by kernel_rfl)
  have xN := @run_callFunc_extern Tryd.prog 31 _ (ReflectliteValue.method (ReflectliteValue.valueError "reflectlite.Value.IsNil" 0) ReflectliteValue.isNil) Tryd.func31 (by kernel_rfl) (by kernel_rfl) (by kernel_rfl) (by kernel_rfl)
  have xK := @run_callFunc_extern Tryd.prog 53 _ (ReflectliteType.abiMethod fun t => do pure (.int .u8 (← Rtype.kind t))) Tryd.func53 (by kernel_rfl) (by kernel_rfl) (by kernel_rfl) (by kernel_rfl)
  have xE := @run_callFunc_extern Tryd.prog 65 _ (ReflectliteType.method ReflectliteType.elem) Tryd.func65 (by kernel_rfl) (by kernel_rfl) (by kernel_rfl) (by kernel_rfl)
  have xI := @run_callFunc_extern Tryd.prog 66 _ (ReflectliteType.relation "Implements" ReflectliteType.implements_) Tryd.func66 (by kernel_rfl) (by kernel_rfl) (by kernel_rfl) (by kernel_rfl)
  have f1 := valueOfF
  have f2 := typeF
  have f3 := kindF
  have f4 := kindEF
  have f5 := elemF
  have f6 := implementsF
  have m1 := methodKind
  have m2 := methodElem
  have m3 := methodImplements
  have n8 := isNilF ⟨w.heap.size, 0, none⟩ ⟨t, 0, none⟩ ((w.alloc (.cells #[.pointer (some ⟨t, 0, none⟩)] 43)).alloc (.cells #[.pointer (some ⟨1, 43, none⟩), .pointer (some ⟨w.heap.size, 0, none⟩), .int .u64 150] 63)) (by simp)
  have HL := Lib.hid (((AnyLater.refl w).alloc (.cells #[.pointer (some ⟨t, 0, none⟩)] 43)).alloc (.cells #[.pointer (some ⟨1, 43, none⟩), .pointer (some ⟨w.heap.size, 0, none⟩), .int .u64 150] 63))
  have hg2 : _ = _ := hg.later HL.out
  have ltt : t < w.heap.size := World.block_lt_of_cell? _ _ ht
  have C2 := Lib.hid (as_fault_F b t w.heap.size old ((w.alloc (.cells #[.pointer (some ⟨t, 0, none⟩)] 43)).alloc (.cells #[.pointer (some ⟨1, 43, none⟩), .pointer (some ⟨w.heap.size, 0, none⟩), .int .u64 150] 63)) (by simp) (by rw [World.cell?_alloc_lt _ _ _ (by simp only [World.size_alloc]; omega), World.cell?_alloc_lt _ _ _ ltt]; exact ht) (by rw [World.frozen?_alloc_old _ _ _ (by simp only [World.size_alloc]; (try dsimp only); omega), World.frozen?_alloc_old _ _ _ (by (try dsimp only); omega)]; exact hf))
  clear hg ht hf
  go_enter Tryd.func17, Tryd.ntmps17
  go_wp2_with (go_at_call 32; refine C2.out.mono ?_; rintro e w' ⟨rfl, hw⟩)
  have HW := Lib.hid hw
  clear hw
  go_wp2
  go_ret
  exact ⟨rfl, HL.out.wrote HW.out⟩

set_option maxHeartbeats 1000000 in
theorem As_C (ps : List Int) (c : Int) (er : Value) (t : Nat) (old : Value) (w : World) (hc : Chain w ps c er) (hg : Glob w) (ht : w.cell? ⟨t, 0, none⟩ = some old) (hf : w.frozen? ⟨t, 0, none⟩ = false) :
    Calls Tryd.prog 17 #[er, .iface 70 (.pointer (some ⟨t, 0, none⟩))] w fun e w' => e = .returned (.bool true) ∧ AnyLater (w.setCell ⟨t, 0, none⟩ (.int .i64 c)) w' := by
  have xV := @run_callFunc_extern Tryd.prog 29 _ (fun args => ReflectliteValue.unpack (args.getD 0 (.tuple #[]))) Tryd.func29 (by kernel_rfl) (by kernel_rfl) (by kernel_rfl) (by kernel_rfl)
  have xT := @run_callFunc_extern Tryd.prog 30 _ (ReflectliteValue.methodAny (ReflectliteValue.valueError "reflectlite.Value.Type" 0) (fun t _ _ _ => ReflectliteType.toType t)) Tryd.func30 (by kernel_rfl) (by kernel_rfl) (by kernel_rfl) (by kernel_rfl)
  have xN := @run_callFunc_extern Tryd.prog 31 _ (ReflectliteValue.method (ReflectliteValue.valueError "reflectlite.Value.IsNil" 0) ReflectliteValue.isNil) Tryd.func31 (by kernel_rfl) (by kernel_rfl) (by kernel_rfl) (by kernel_rfl)
  have xK := @run_callFunc_extern Tryd.prog 53 _ (ReflectliteType.abiMethod fun t => do pure (.int .u8 (← Rtype.kind t))) Tryd.func53 (by kernel_rfl) (by kernel_rfl) (by kernel_rfl) (by kernel_rfl)
  have xE := @run_callFunc_extern Tryd.prog 65 _ (ReflectliteType.method ReflectliteType.elem) Tryd.func65 (by kernel_rfl) (by kernel_rfl) (by kernel_rfl) (by kernel_rfl)
  have xI := @run_callFunc_extern Tryd.prog 66 _ (ReflectliteType.relation "Implements" ReflectliteType.implements_) Tryd.func66 (by kernel_rfl) (by kernel_rfl) (by kernel_rfl) (by kernel_rfl)
  have f1 := valueOfC
  have f2 := typeC
  have f3 := kindC
  have f4 := kindEC
  have f5 := elemC
  have f6 := implementsC
  have m1 := methodKind
  have m2 := methodElem
  have m3 := methodImplements
  have n8 := isNilC ⟨w.heap.size, 0, none⟩ ⟨t, 0, none⟩ ((w.alloc (.cells #[.pointer (some ⟨t, 0, none⟩)] 70)).alloc (.cells #[.pointer (some ⟨1, 70, none⟩), .pointer (some ⟨w.heap.size, 0, none⟩), .int .u64 150] 63)) (by simp)
  have HL := Lib.hid (((AnyLater.refl w).alloc (.cells #[.pointer (some ⟨t, 0, none⟩)] 70)).alloc (.cells #[.pointer (some ⟨1, 70, none⟩), .pointer (some ⟨w.heap.size, 0, none⟩), .int .u64 150] 63))
  have hg2 : _ = _ := hg.later HL.out
  have ltt : t < w.heap.size := World.block_lt_of_cell? _ _ ht
  obtain ⟨tq, vq, rfl⟩ := hc.iface
  have C2 := Lib.hid (as_C ps c (.iface tq vq) t w.heap.size old ((w.alloc (.cells #[.pointer (some ⟨t, 0, none⟩)] 70)).alloc (.cells #[.pointer (some ⟨1, 70, none⟩), .pointer (some ⟨w.heap.size, 0, none⟩), .int .u64 150] 63)) (hc.later HL.out) (by simp) (by rw [World.cell?_alloc_lt _ _ _ (by simp only [World.size_alloc]; omega), World.cell?_alloc_lt _ _ _ ltt]; exact ht) (by rw [World.frozen?_alloc_old _ _ _ (by simp only [World.size_alloc]; (try dsimp only); omega), World.frozen?_alloc_old _ _ _ (by (try dsimp only); omega)]; exact hf))
  clear hg ht hf hc
  go_enter Tryd.func17, Tryd.ntmps17
  go_wp2_with (go_at_call 32; refine C2.out.mono ?_; rintro e w' ⟨rfl, hw⟩)
  have HW := Lib.hid hw
  clear hw
  go_wp2
  go_ret
  exact ⟨rfl, HL.out.wrote HW.out⟩
end Go.Proofs.YtfocpgnhbabeiaaDoor
