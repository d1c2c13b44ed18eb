/- rope: few bytes of any; the document's own text, as it lies in memory: bytes put in, bytes taken away: by contract. -/
import Derived.Test.YtiicaldnegcdiaaGreatRopM
import Derived.Test.YtiicaldnegcdiaaGreatChain
namespace Go.Proofs.YtiicaldnegcdiaaGreat
set_option linter.unusedSimpArgs false
set_option linter.unusedVariables false
set_option linter.unusedSectionVars false
open Go.RowKit

/-! ### few -/
set_option maxRecDepth 100000 in
theorem rfew_s (v : Value) (l : List Int) (k : Nat) (w : World) (hv : RN .u8 w v l) (hl : l.length ≤ k) (hk : k ≤ 60000) : Calls Tryz.prog 5 #[v, .int .i64 (k : Int)] w fun e w' => ∃ u, e = .returned u ∧ AnyLater w w' ∧ ON .u8 5 w' w.heap.size u l := by
  obtain ⟨u, w2, k1, k2, k3⟩ := copy8 hv (by omega)
  have HK := Lib.hid (And.intro k2 k3)
  have K1 := Lib.hid k1
  obtain ⟨A, cap, rfl, -⟩ := hv.form
  have d1 : decide ((k : Int) < (l.length : Int)) = false := decide_eq_false (by omega)
  have d2 : decide (k < l.length) = false := decide_eq_false (by omega)
  clear k1 k2 k3 hv hl
  generalize l.length = n at *
  go_enter Tryz.func5, Tryz.ntmps5
  go_wp2_with (at_builtin; refine Lib.wpList_append_run _ rfl _ _ _ _ rfl _ _ rfl rfl _ _ K1.out ?_)
  go_ret
  exact ⟨_, rfl, HK.out.1, HK.out.2⟩
set_option maxRecDepth 100000 in
theorem rfew_l (v : Value) (l : List Int) (k : Nat) (w : World) (hv : RN .u8 w v l) (hl : k < l.length) (hk : k ≤ 60000) : Calls Tryz.prog 5 #[v, .int .i64 (k : Int)] w fun e w' => ∃ u, e = .returned u ∧ AnyLater w w' ∧ ON .u8 5 w' w.heap.size u (l.take k) := by
  obtain ⟨A0, cap0, hr, hup⟩ := RN.upto hv k (by omega)
  obtain ⟨u, w2, k1, k2, k3⟩ := copy8 hr (by rw [List.length_take]; omega)
  have HK := Lib.hid (And.intro k2 k3)
  have K1 := Lib.hid k1
  obtain ⟨A, cap, rfl, -⟩ := hv.form
  have d1 : (k : Int) < (l.length : Int) := by omega
  clear k1 k2 k3 hv hl hr
  generalize l.length = n at *
  go_enter Tryz.func5, Tryz.ntmps5
  go_wp2_with (at_builtin; refine Lib.wpList_append_run _ rfl _ _ _ _ rfl _ _ rfl rfl _ _ K1.out ?_)
  go_ret
  exact ⟨_, rfl, HK.out.1, HK.out.2⟩
/-- the first k of any bytes -/
theorem few_any8 (v : Value) (l m : List Int) (k : Nat) (hm : l.take k = m) (w : World) (hv : RN .u8 w v l) (hk : k ≤ 60000) : Calls Tryz.prog 5 #[v, .int .i64 (k : Int)] w fun e w' => ∃ u, e = .returned u ∧ AnyLater w w' ∧ ON .u8 5 w' w.heap.size u m := by
  subst hm
  by_cases h : l.length ≤ k
  · rw [List.take_of_length_le h]
    exact rfew_s v l k w hv h hk
  · exact rfew_l v l k w hv (by omega) hk

/-! ### the document's text -/
/-- an append of the row -/
theorem chain_app {P : Program} {F : Act} {o : Oper} {v : Value} {w w' : World} {R : Value → World → Prop} (s x : Operand) (t tn : TypeId) (ho : o.op = .call { callee := .builtin .append, args := #[s, x], argTypes := #[t, tn] }) (vs vx : Value) (hs : F.eval s = vs) (hx : F.eval x = vx)
    (hr : (Builtin.append_ #[t, tn] o.type #[vs, vx]).run P w = .ok v w') (h : R v w') : ChainStep P F o w R := by
  refine chain_value (w' := w') ?_ h
  unfold execOp
  simp only [ho, resolve, invoke, builtin, Sem.run_bind, Sem.run_pure, Result.andThen_ok, List.map_toArray, List.map_cons, List.map_nil, hs, hx, hr]
def st4 (w0 w1 w2 w3 w4 : World) (j : Nat) (_ : Nat → Value) (x : World) : Prop := match j with
  | 0 => x = w0
  | 1 => x = w1
  | 2 => x = w2
  | 3 => x = w3
  | 4 => x = w4
  | _ => True
end Go.Proofs.YtiicaldnegcdiaaGreat
