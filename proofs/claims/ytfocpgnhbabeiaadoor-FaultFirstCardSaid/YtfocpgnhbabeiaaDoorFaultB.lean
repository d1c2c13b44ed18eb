/- fault: errors.As and errors.Unwrap by their contracts, at the errors and targets that the program makes. -/
import Derived.Test.YtfocpgnhbabeiaaDoorFaultA
import Derived.Test.YtfocpgnhbabeiaaDoorRegion
import Derived.Deep.LoopGhost
import Derived.LoopN
namespace Go.Proofs.YtfocpgnhbabeiaaDoor
set_option linter.unusedSimpArgs false
set_option linter.unusedVariables false
set_option linter.unusedSectionVars false
open Go.RowKit Go.Extern.Stop Go.Stop Go.Extern

/-- an error that was made of places about a code -/
def Chain (w : World) : List Int → Int → Value → Prop
  | [], c, e => e = .iface 23 (.int .i64 c)
  | p :: ps, c, e => ∃ (b : Nat) (e' : Value), e = .iface 41 (.pointer (some ⟨b, 0, none⟩)) ∧ w.heap[b]? = some (.cells #[.int .i64 p, e'] 45) ∧ Chain w ps c e'
theorem Chain.later {w w' : World} (h : AnyLater w w') : ∀ {ps : List Int} {c : Int} {e : Value}, Chain w ps c e → Chain w' ps c e
  | [], _, _, k => k
  | _ :: _, _, _, ⟨b, e', h1, h2, h3⟩ => ⟨b, e', h1, any_own h h2, Chain.later h h3⟩
/-- errors.errorType holds the type error -/
def Glob (w : World) : Prop := w.cell? ⟨0, 0, none⟩ = some (.iface 73 (.agg #[.pointer (some ⟨1, 28, none⟩)]))
theorem Glob.later {w w' : World} (h : AnyLater w w') (g : Glob w) : Glob w' := (h.below.cell (World.block_lt_of_cell? _ _ g)).trans g
theorem Glob.pos {w : World} (g : Glob w) : 0 < w.heap.size := World.block_lt_of_cell? _ _ g
theorem Chain.iface {w : World} : ∀ {ps : List Int} {c : Int} {e : Value}, Chain w ps c e → ∃ t v, e = .iface t v
  | [], _, _, k => ⟨_, _, k⟩
  | _ :: _, _, _, ⟨_, _, h1, _, _⟩ => ⟨_, _, h1⟩
theorem run_eql_iface_nil {P : Program} {ti : TypeId} {ms : Array (String × TypeId)} (tp : TypeId) (v : Value) (hi : P.underlying ti = some (.interface ms)) (w : World) :
    (binOp .eql ti (.iface tp v) .nilIface).run P w = .ok (.bool false) w := by
  have h : ∀ d : Nat, (Op.equalIn (d + 1) ti (.iface tp v) .nilIface).run P w = .ok false w := fun d => by simp [Op.equalIn, run_underlying hi]
  simp only [binOp]
  simp [Op.equal, Op.maxDepth, h 9999]
theorem run_neq_iface_nil {P : Program} {ti : TypeId} {ms : Array (String × TypeId)} (tp : TypeId) (v : Value) (hi : P.underlying ti = some (.interface ms)) (w : World) :
    (binOp .neq ti (.iface tp v) .nilIface).run P w = .ok (.bool true) w := by
  have h : ∀ d : Nat, (Op.equalIn (d + 1) ti (.iface tp v) .nilIface).run P w = .ok false w := fun d => by simp [Op.equalIn, run_underlying hi]
  simp only [binOp]
  simp [Op.equal, Op.maxDepth, h 9999]
theorem eqlNil {w : World} {ps : List Int} {c : Int} {e : Value} (h : Chain w ps c e) (w' : World) : (binOp .eql 28 e .nilIface).run Tryd.prog w' = .ok (.bool false) w' := by
  obtain ⟨t, v, rfl⟩ := h.iface
  exact run_eql_iface_nil t v Tryd.underlying28 w'
theorem neqNil {w : World} {ps : List Int} {c : Int} {e : Value} (h : Chain w ps c e) (w' : World) : (binOp .neq 28 e .nilIface).run Tryd.prog w' = .ok (.bool true) w' := by
  obtain ⟨t, v, rfl⟩ := h.iface
  exact run_neq_iface_nil t v Tryd.underlying28 w'

theorem unwrap_fault (b : Nat) (p : Int) (e' : Value) (w : World) (h : w.heap[b]? = some (.cells #[.int .i64 p, e'] 45)) :
    Calls Tryd.prog 38 #[.iface 41 (.pointer (some ⟨b, 0, none⟩))] w fun e w' => e = .returned e' ∧ w = w' := by
  have c0 := own_row h 0
  have c1 := own_row h 1
  have tU := hasUnwrapFault
  have mU := methodUnwrap
  clear h
  go_enter Tryd.func38, Tryd.ntmps38
  go_wp2
  go_ret
  exact ⟨rfl, rfl⟩
theorem unwrap_code (c : Int) (w : World) :
    Calls Tryd.prog 38 #[.iface 23 (.int .i64 c)] w fun e w' => e = .returned .nilIface ∧ w = w' := by
  have tU := lacksUnwrapCode
  go_enter Tryd.func38, Tryd.ntmps38
  go_wp2
  go_ret
  exact ⟨rfl, rfl⟩

set_option maxHeartbeats 1000000 in
theorem as_code_S (c : Int) (t : Nat) (v : Nat) (w : World) :
    Calls Tryd.prog 32 #[.iface 23 (.int .i64 c), .iface 90 (.pointer (some ⟨t, 0, none⟩)), .agg #[.pointer (some ⟨1, 90, none⟩), .pointer (some ⟨v, 0, none⟩), .int .u64 150], .iface 73 (.agg #[.pointer (some ⟨1, 89, none⟩)])] w fun e w' => e = .returned (.bool false) ∧ AnyLater w w' := by
  have xO := @run_callFunc_extern Tryd.prog 27 _ ReflectliteType.typeOf Tryd.func27 (by kernel_rfl) (by kernel_rfl) (by kernel_rfl) (by kernel_rfl)
  have xA := @run_callFunc_extern Tryd.prog 63 _ (ReflectliteType.relation "AssignableTo" ReflectliteType.assignableTo) Tryd.func63 (by kernel_rfl) (by kernel_rfl) (by kernel_rfl) (by kernel_rfl)
  have tO := typeOfCode
  have mA := methodAssignableTo
  have aS := assignCodeS
  have lA := lacksAsCode
  have lU := lacksUnwrapCode
  have lV := lacksUnwrapsCode
  have HL := Lib.hid ((AnyLater.refl w).alloc (.cells #[.pointer (some ⟨1, 90, none⟩), .pointer (some ⟨v, 0, none⟩), .int .u64 150] 63))
  go_enter Tryd.func32, Tryd.ntmps32
  go_wp2
  refine wp_loop_rounds 1 ?_
  rw [rounds_succ]
  go_wp2
  go_ret
  exact ⟨rfl, HL.out⟩
end Go.Proofs.YtfocpgnhbabeiaaDoor
