/- Steps of a drawn region (text Wild) that make memory of their own and are no calls: a slice that is built, an append onto an empty one. No condition. -/
import Derived.Test.YtkobnijjahpifaaDoorWild
import Derived.Test.YtkobnijjahpifaaDoorPairs
import Derived.ArgAppend
namespace Go.Proofs.YtkobnijjahpifaaDoor
set_option linter.unusedSimpArgs false
set_option linter.unusedVariables false
set_option linter.unusedSectionVars false
open Go.RowKit

/-- an operation that is no call, which leaves a later world, and of whose value a property is known -/
theorem Wild.free_make {P : Program} {F : Act} {o : Oper} {w w' : World} {v : Value} {is : Value → World → Prop} (h : (execOp F.eval o).run P w = .ok (.value v) w') (ha : AnyLater w w') (hi : is v w') : ChainStep P F o w fun u w' => AnyLater w w' ∧ is u w' ∧ (true = true → Wild.vblkOk u w w') := by
  unfold ChainStep
  rw [h]
  exact ⟨ha, hi, fun _ b hb => by cases hb⟩
theorem Wild.free_app {P : Program} {F : Act} {o : Oper} {v : Value} {w w' : World} {is : Value → World → Prop} (s x : Operand) (t tn : TypeId) (ho : o.op = .call { callee := .builtin .append, args := #[s, x], argTypes := #[t, tn] }) (vs vx : Value) (hs : F.eval s = vs) (hx : F.eval x = vx)
    (hr : (Builtin.append_ #[t, tn] o.type #[vs, vx]).run P w = .ok v w') (ha : AnyLater w w') (hi : is v w') : ChainStep P F o w fun u w' => AnyLater w w' ∧ is u w' ∧ (true = true → Wild.vblkOk u w w') := by
  refine Wild.free_make ?_ ha hi
  unfold execOp
  simp only [ho, resolve, invoke, builtin, Sem.run_bind, Sem.run_pure, Result.andThen_ok, List.map_toArray, List.map_cons, List.map_nil, hs, hx, hr]
/-- an empty slice that is not nil -/
def isE (u : Value) (_ : World) : Prop := ∃ a, u = .slice (some a) 0 0
theorem isE.stays {v : Value} {w w' : World} (_ : AnyLater w w') (h : isE v w) : isE v w' := h
theorem AnyLater.grown {w w' : World} (h : w.grownBy w' none) : AnyLater w w' := grown_later (AnyLater.refl w) h (fun k hk => by cases hk)
/-- append(u, v...), u empty and not nil -/
theorem copyE {t s : TypeId} (T : PairT t s) {w : World} {u v : Value} {l : Qs} (hu : isE u w) (hr : QR w v l) (hl : l.length ≤ 190000) :
    ∃ v' w', (Builtin.append_ #[s, s] s #[u, v]).run Tryd.prog w = .ok v' w' ∧ AnyLater w w' ∧ QR w' v' l := by
  obtain ⟨i0, hi0, hz0, hz1, hz2⟩ := info_parts T.info
  obtain ⟨ad, rfl⟩ := hu
  obtain ⟨A, cap, rfl, h2, h3⟩ := hr
  by_cases h0 : 0 < l.length
  · obtain ⟨b, off, rfl, hb, hc⟩ := h3 h0
    obtain ⟨v', w', k1, k2, k3⟩ := run_append_arg_grows (P := Tryd.prog) w s s t i0 (.agg #[.int .i64 0, .int .i64 0]) 2 16 T.und hi0 hz0 hz1 hz2 rfl (by decide) ad 0 0 [] rfl (fun j u hj => by simp at hj) ⟨b, off, none⟩ l.length cap (flatQ l) (by rw [flatQ_length]) (QR.cells hc) (by omega) (by unfold maxLen; omega) (by omega)
    refine ⟨v', w', k1, .grown k3, OQ.rq (t := t) (B := w.heap.size) ?_⟩
    simpa using k2
  · obtain rfl := List.eq_nil_of_length_eq_zero (Nat.eq_zero_of_not_pos h0)
    cases A with
    | none =>
      have hsrc := Src.ofNil (P := Tryd.prog) w (size := i0.size) T.und cap
      exact ⟨_, _, run_append_nothing (P := Tryd.prog) w s s s t i0 T.und hi0 (some ad) 0 0 (Nat.le_refl _) _ hsrc, .refl _, QR.void _ _ _⟩
    | some a2 =>
      refine ⟨.slice (some ad) 0 0, w, ?_, .refl _, QR.void _ _ _⟩
      exact run_append_nothing (P := Tryd.prog) w s s s t i0 T.und hi0 (some ad) 0 0 (Nat.le_refl _) _ (Src.ofSlice (P := Tryd.prog) w (size := i0.size) T.und a2 0 cap [] (by simp) (fun j x hx => by simp at hx) (fun u hu => by cases hu))
end Go.Proofs.YtkobnijjahpifaaDoor
