/- fault: below, what an error is next about, with its deferred recover; and count, how many errors there are in one another. -/
import Derived.Test.YtfocpgnhbabeiaaDoorFaultD
import Derived.Defers
import Derived.Recover
namespace Go.Proofs.YtfocpgnhbabeiaaDoor
set_option linter.unusedSimpArgs false
set_option linter.unusedVariables false
set_option linter.unusedSectionVars false
open Go.RowKit Go.Extern.Stop Go.Stop Go.Extern

theorem below_idle (p : Addr) (w : World) :
    CallsD Tryd.prog 37 #[.pointer (some p)] .returning w fun e u' w' => e = .returned (.tuple #[]) ∧ u' = .returning ∧ w = w' := by
  refine callsD_of_wpS Tryd.func37 rfl fun c₀ cs hu => ?_
  apply wpS_seq
  apply wpS_region
  simp [wpOpsS, go_sem, recoverD, hu, Tryd.ntmps37, Exit.thenS]
  refine wpS_cond (t := false) (by simp [Act.eval, Array.replicate]) ?_
  simp only [Bool.false_eq_true, if_false]
  refine wpS_of_wp (wp_skip ?_)
  cases c₀
  simp_all [bodyPostS, results, Tryd.results37]

theorem below_fault (b : Nat) (p : Int) (e' : Value) (w : World) (h : w.heap[b]? = some (.cells #[.int .i64 p, e'] 45)) (hn : ∃ t v, e' = .iface t v) :
    Calls Tryd.prog 34 #[.iface 41 (.pointer (some ⟨b, 0, none⟩))] w fun e w' => ∃ k, e = .returned (.slice (some ⟨k, 0, none⟩) 1 1) ∧ w'.heap[k]? = some (.cells #[e'] 28) ∧ AnyLater w w' := by
  have hmf : ∀ (fn : Fn) (first cap : Array Value) (w : World), (Instr.makeFunc fn first cap).run Tryd.prog w = .ok (.func fn first cap) w := fun _ _ _ _ => rfl
  obtain ⟨tq, vq, rfl⟩ := hn
  have hlt := own_lt h
  have C := Lib.hid (unwrap_fault b p _ (w.alloc (.cells #[.slice none 0 0] 48)) (by rw [heap_old hlt h]))
  go_enter_defers Tryd.func34, Tryd.ntmps34
  go_wp2_with (go_at_call 38; refine C.out.mono ?_; rintro e w' ⟨rfl, rfl⟩)
  refine leaves_cons (f := 37) (args := #[.pointer (some ⟨w.heap.size, 0, none⟩)]) (by simp) (by simp [go_sem]) ?_
  refine (below_idle ⟨w.heap.size, 0, none⟩ _).mono ?_
  rintro e u' w'' ⟨rfl, rfl, rfl⟩
  simp only [Leaves, settle, results, Tryd.results34]
  refine ⟨.slice (some ⟨w.heap.size + 1, 0, none⟩) 1 1, by simp [go_sem], w.heap.size + 1, rfl, heap_new (by simp only [World.size_alloc]), ((AnyLater.refl w).alloc _).alloc _⟩

theorem below_code (c : Int) (w : World) :
    Calls Tryd.prog 34 #[.iface 23 (.int .i64 c)] w fun e w' => e = .returned (.slice none 0 0) ∧ AnyLater w w' := by
  have hmf : ∀ (fn : Fn) (first cap : Array Value) (w : World), (Instr.makeFunc fn first cap).run Tryd.prog w = .ok (.func fn first cap) w := fun _ _ _ _ => rfl
  have HL := Lib.hid (((AnyLater.refl w).alloc (.cells #[.slice none 0 0] 48)).alloc (.cells #[.nilIface] 89))
  go_enter_defers Tryd.func34, Tryd.ntmps34
  go_wp2_with (go_at_call 38; refine (unwrap_code _ _).mono ?_; rintro e w' ⟨rfl, rfl⟩)
  refine (As_code_S _ _ _).mono ?_
  rintro e w1 ⟨rfl, hw⟩
  have c0 : w1.cell? ⟨w.heap.size, 0, none⟩ = some (.slice none 0 0) := by rw [hw.below.cell (by simp only [World.size_alloc]; omega)]; simp
  have f0 : w1.frozen? ⟨w.heap.size, 0, none⟩ = false := by rw [hw.below.frozen (by simp only [World.size_alloc]; omega)]; simp
  have hs := hw.below.size
  simp only [World.size_alloc] at hs
  have HW := Lib.hid hw
  clear hw
  go_wp2
  refine leaves_cons (f := 37) (args := #[.pointer (some ⟨w.heap.size, 0, none⟩)]) (by simp) (by simp [go_sem]) ?_
  refine (below_idle ⟨w.heap.size, 0, none⟩ _).mono ?_
  rintro e u' w'' ⟨rfl, rfl, rfl⟩
  simp only [Leaves, settle, results, Tryd.results34]
  refine ⟨.slice none 0 0, by simp [go_sem, c0], rfl, (HL.out.trans HW.out).setCell (Nat.le_refl _) _⟩
end Go.Proofs.YtfocpgnhbabeiaaDoor
