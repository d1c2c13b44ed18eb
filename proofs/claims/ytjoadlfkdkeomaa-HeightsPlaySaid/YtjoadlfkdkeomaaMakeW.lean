/- Steps of a drawn region (text Wild) that make memory of their own and are no calls. No condition. -/
import Derived.Test.YtjoadlfkdkeomaaWild
import Derived.Test.YtjoadlfkdkeomaaOwn
import Derived.ArgAppend
namespace Go.Proofs.Ytjoadlfkdkeomaa
set_option linter.unusedSimpArgs false
set_option linter.unusedVariables false
set_option linter.unusedSectionVars false
open Go.RowKit

/-- an operation that is no call, which leaves a later world, and of whose value a property is known -/
theorem Wild.free_make {P : Program} {F : Act} {o : Oper} {w w' : World} {v : Value} {is : Value → World → Prop} (h : (execOp F.eval o).run P w = .ok (.value v) w') (ha : AnyLater w w') (hi : is v w') : ChainStep P F o w fun u w' => AnyLater w w' ∧ is u w' ∧ (true = true → Wild.vblkOk u w w') := by
  unfold ChainStep
  rw [h]
  exact ⟨ha, hi, fun _ b hb => by cases hb⟩
theorem Wild.free_app {P : Program} {F : Act} {o : Oper} {v : Value} {w w' : World} {is : Value → World → Prop} (s x : Operand) (t tn : TypeId) (ho : o.op = .call { callee := .builtin .append, args := #[s, x], argTypes := #[t, tn] }) (vs vx : Value) (hs : F.eval s = vs) (hx : F.eval x = vx)
    (hr : (Builtin.append_ #[t, tn] o.type #[vs, vx]).run P w = .ok v w') (ha : AnyLater w w') (hi : is v w') : ChainStep P F o w fun u w' => AnyLater w w' ∧ is u w' ∧ (true = true → Wild.vblkOk u w w') := by
  refine Wild.free_make ?_ ha hi
  unfold execOp
  simp only [ho, resolve, invoke, builtin, Sem.run_bind, Sem.run_pure, Result.andThen_ok, List.map_toArray, List.map_cons, List.map_nil, hs, hx, hr]
/-- an empty slice that is not nil -/
def isE (u : Value) (_ : World) : Prop := ∃ a, u = .slice (some a) 0 0
theorem isE.stays {v : Value} {w w' : World} (_ : AnyLater w w') (h : isE v w) : isE v w' := h
theorem AnyLater.grown {w w' : World} (h : w.grownBy w' none) : AnyLater w w' := grown_later (AnyLater.refl w) h (fun k hk => by cases hk)
end Go.Proofs.Ytjoadlfkdkeomaa
