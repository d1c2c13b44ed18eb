/- fault: Is by its contract. -/
import Derived.Test.YtfocpgnhbabeiaaDoorFaultH
import Derived.Test.YtfocpgnhbabeiaaDoorFaultE
namespace Go.Proofs.YtfocpgnhbabeiaaDoor
set_option linter.unusedSimpArgs false
set_option linter.unusedVariables false
set_option linter.unusedSectionVars false
open Go.RowKit Go.Extern.Stop Go.Stop Go.Extern

theorem is_do_nil (o : Int) (g h k : Nat) (w : World) (hgv : w.heap[g]? = some (.cells #[.nilIface] 28)) (hh : w.heap[h]? = some (.cells #[.int .i64 o] 23)) (x : Value) (hk : w.heap[k]? = some (.cells #[x] 4)) :
    Calls Tryd.prog 23 #[.pointer (some ⟨g, 0, none⟩), .pointer (some ⟨h, 0, none⟩), .pointer (some ⟨k, 0, none⟩)] w fun e w' => e = .returned (.tuple #[]) ∧ w' = w.setCell ⟨k, 0, none⟩ (.bool false) := by
  have r0 := own_row hgv 0
  have r2 := own_row hh 0
  have r1 := own_row hk 0
  have f1 := own_free hk 0
  clear hgv hk hh
  go_enter Tryd.func23, Tryd.ntmps23
  go_wp2_with fail
  refine (Is_nil _ _).mono ?_
  rintro e w1 ⟨rfl, rfl⟩
  go_wp2_with fail
  go_end0
  exact ⟨rfl, rfl⟩
theorem is_do (ps : List Int) (c o : Int) (er : Value) (g h k : Nat) (w : World) (r : Bool) (hr : (c == o) = r) (hc : Chain w ps c er) (hgv : w.heap[g]? = some (.cells #[er] 28)) (hh : w.heap[h]? = some (.cells #[.int .i64 o] 23)) (x : Value) (hk : w.heap[k]? = some (.cells #[x] 4)) :
    Calls Tryd.prog 23 #[.pointer (some ⟨g, 0, none⟩), .pointer (some ⟨h, 0, none⟩), .pointer (some ⟨k, 0, none⟩)] w fun e w' => e = .returned (.tuple #[]) ∧ w' = w.setCell ⟨k, 0, none⟩ (.bool r) := by
  have r0 : w.cell? ⟨g, 0, none⟩ = some er := own_row hgv 0
  have r2 := own_row hh 0
  have r1 := own_row hk 0
  have f1 := own_free hk 0
  have C := Lib.hid (Is_chain ps c o er w r hr hc)
  clear hgv hk hh hc hr
  go_enter Tryd.func23, Tryd.ntmps23
  go_wp2_with fail
  refine C.out.mono ?_
  rintro e w1 ⟨rfl, rfl⟩
  go_wp2_with fail
  go_end0
  exact ⟨rfl, rfl⟩
theorem is_calls (caps : Array Value) (w : World) : (callFunc 23 caps).run Tryd.prog w = .ok (.enter 23 caps) w := by kernel_rfl
theorem fis_nil (o : Int) (w : World) :
    Calls Tryd.prog 10 #[.nilIface, .int .i64 o] w fun e w' => e = .returned (.bool false) ∧ AnyLater w w' := by
  have hmf : ∀ (fn : Fn) (first cap : Array Value) (w : World), (Instr.makeFunc fn first cap).run Tryd.prog w = .ok (.func fn first cap) w := fun _ _ _ _ => rfl
  go_enter Tryd.func10, Tryd.ntmps10
  go_wp2_with fail
  first | refine settle_wp (fun wS => AnyLater w wS ∧ wS.heap[w.heap.size]? = some (.cells #[.nilIface] 28) ∧ wS.heap[w.heap.size + 1]? = some (.cells #[.int .i64 o] 23) ∧ wS.heap[w.heap.size + 1 + 1]? = some (.cells #[.bool false] 4)) ?_ ?_ | refine settle_calls (fun wS => AnyLater w wS ∧ wS.heap[w.heap.size]? = some (.cells #[.nilIface] 28) ∧ wS.heap[w.heap.size + 1]? = some (.cells #[.int .i64 o] 23) ∧ wS.heap[w.heap.size + 1 + 1]? = some (.cells #[.bool false] 4)) ?_ ?_
  · refine ⟨?_, ?_, ?_, ?_⟩
    · repeat' (first | with_reducible assumption | with_reducible exact AnyLater.refl _ | with_reducible apply AnyLater.setCell | with_reducible apply AnyLater.later | with_reducible apply AnyLater.drewN | with_reducible apply AnyLater.drew | with_reducible apply AnyLater.alloc | ((try simp only [World.size_alloc, World.size_setCell, World.size_drew]); (try dsimp only); omega))
    · ((repeat (first | with_reducible assumption | ((with_reducible apply heap_new); (try simp only [World.size_alloc, World.size_setCell, World.size_drew, World.heap_drewN]); done) | ((with_reducible apply heap_new); (try simp only [World.size_alloc, World.size_setCell, World.size_drew, World.heap_drewN]); omega) | (with_reducible refine heap_old (by (try simp only [World.size_alloc, World.size_setCell, World.size_drew, World.heap_drewN]); omega) ?_) | (with_reducible refine heap_drew ?_) | (with_reducible refine heap_far (by omega) ?_) | (with_reducible apply heap_at))); all_goals rfl)
    · ((repeat (first | with_reducible assumption | ((with_reducible apply heap_new); (try simp only [World.size_alloc, World.size_setCell, World.size_drew, World.heap_drewN]); done) | ((with_reducible apply heap_new); (try simp only [World.size_alloc, World.size_setCell, World.size_drew, World.heap_drewN]); omega) | (with_reducible refine heap_old (by (try simp only [World.size_alloc, World.size_setCell, World.size_drew, World.heap_drewN]); omega) ?_) | (with_reducible refine heap_drew ?_) | (with_reducible refine heap_far (by omega) ?_) | (with_reducible apply heap_at))); all_goals rfl)
    · ((repeat (first | with_reducible assumption | ((with_reducible apply heap_new); (try simp only [World.size_alloc, World.size_setCell, World.size_drew, World.heap_drewN]); done) | ((with_reducible apply heap_new); (try simp only [World.size_alloc, World.size_setCell, World.size_drew, World.heap_drewN]); omega) | (with_reducible refine heap_old (by (try simp only [World.size_alloc, World.size_setCell, World.size_drew, World.heap_drewN]); omega) ?_) | (with_reducible refine heap_drew ?_) | (with_reducible refine heap_far (by omega) ?_) | (with_reducible apply heap_at))); all_goals rfl)
  rintro w1 ⟨b_w1, s0_w1, s1_w1, s2_w1⟩
  have a_w1 := b_w1
  have r0_w1 := own_row s0_w1
  have f0_w1 := own_free s0_w1
  have l0_w1 := own_lt s0_w1
  have r1_w1 := own_row s1_w1
  have f1_w1 := own_free s1_w1
  have l1_w1 := own_lt s1_w1
  have r2_w1 := own_row s2_w1
  have f2_w1 := own_free s2_w1
  have l2_w1 := own_lt s2_w1
  have z_w1 := b_w1.below.size
  have C := look_nil 23 #[.pointer (some ⟨w.heap.size, 0, none⟩), .pointer (some ⟨w.heap.size + 1, 0, none⟩), .pointer (some ⟨w.heap.size + 1 + 1, 0, none⟩)] w1 (fun w2 => ∃ w3, AnyLater w1 w3 ∧ w2 = w3.setCell ⟨w.heap.size + 1 + 1, 0, none⟩ (.bool false)) (fun _ => is_calls _ _) (fun w2 h2 => (is_do_nil o _ _ _ w2 (any_own h2 s0_w1) (any_own h2 s1_w1) _ (any_own h2 s2_w1)).mono fun e w3 ⟨he, hw⟩ => ⟨he, w2, h2, hw⟩)
  refine C.mono ?_
  rintro e w2 ⟨rfl, w3, h3, rfl⟩
  have s := heap_at (v := .bool false) (i := 0) (any_own h3 s2_w1) rfl
  have r := own_row s 0
  have HW := Lib.hid ((a_w1.trans h3).setCell (p := ⟨w.heap.size + 1 + 1, 0, none⟩) (by (try dsimp only); omega) (.bool false))
  clear s h3 C
  go_wp2_with fail
  go_ret
  exact ⟨rfl, HW.out⟩
theorem fis_chain (ps : List Int) (c o : Int) (er : Value) (w : World) (r : Bool) (hr : (c == o) = r) (hc : Chain w ps c er) (h1 : ps.length < 131072) :
    Calls Tryd.prog 10 #[er, .int .i64 o] w fun e w' => e = .returned (.bool r) ∧ AnyLater w w' := by
  have hmf : ∀ (fn : Fn) (first cap : Array Value) (w : World), (Instr.makeFunc fn first cap).run Tryd.prog w = .ok (.func fn first cap) w := fun _ _ _ _ => rfl
  obtain ⟨tq, vq, rfl⟩ := hc.iface
  have HC := Lib.hid hc
  have HR := Lib.hid hr
  clear hc hr
  go_enter Tryd.func10, Tryd.ntmps10
  go_wp2_with fail
  first | refine settle_wp (fun wS => AnyLater w wS ∧ wS.heap[w.heap.size]? = some (.cells #[.iface tq vq] 28) ∧ wS.heap[w.heap.size + 1]? = some (.cells #[.int .i64 o] 23) ∧ wS.heap[w.heap.size + 1 + 1]? = some (.cells #[.bool false] 4)) ?_ ?_ | refine settle_calls (fun wS => AnyLater w wS ∧ wS.heap[w.heap.size]? = some (.cells #[.iface tq vq] 28) ∧ wS.heap[w.heap.size + 1]? = some (.cells #[.int .i64 o] 23) ∧ wS.heap[w.heap.size + 1 + 1]? = some (.cells #[.bool false] 4)) ?_ ?_
  · refine ⟨?_, ?_, ?_, ?_⟩
    · repeat' (first | with_reducible assumption | with_reducible exact AnyLater.refl _ | with_reducible apply AnyLater.setCell | with_reducible apply AnyLater.later | with_reducible apply AnyLater.drewN | with_reducible apply AnyLater.drew | with_reducible apply AnyLater.alloc | ((try simp only [World.size_alloc, World.size_setCell, World.size_drew]); (try dsimp only); omega))
    · ((repeat (first | with_reducible assumption | ((with_reducible apply heap_new); (try simp only [World.size_alloc, World.size_setCell, World.size_drew, World.heap_drewN]); done) | ((with_reducible apply heap_new); (try simp only [World.size_alloc, World.size_setCell, World.size_drew, World.heap_drewN]); omega) | (with_reducible refine heap_old (by (try simp only [World.size_alloc, World.size_setCell, World.size_drew, World.heap_drewN]); omega) ?_) | (with_reducible refine heap_drew ?_) | (with_reducible refine heap_far (by omega) ?_) | (with_reducible apply heap_at))); all_goals rfl)
    · ((repeat (first | with_reducible assumption | ((with_reducible apply heap_new); (try simp only [World.size_alloc, World.size_setCell, World.size_drew, World.heap_drewN]); done) | ((with_reducible apply heap_new); (try simp only [World.size_alloc, World.size_setCell, World.size_drew, World.heap_drewN]); omega) | (with_reducible refine heap_old (by (try simp only [World.size_alloc, World.size_setCell, World.size_drew, World.heap_drewN]); omega) ?_) | (with_reducible refine heap_drew ?_) | (with_reducible refine heap_far (by omega) ?_) | (with_reducible apply heap_at))); all_goals rfl)
    · ((repeat (first | with_reducible assumption | ((with_reducible apply heap_new); (try simp only [World.size_alloc, World.size_setCell, World.size_drew, World.heap_drewN]); done) | ((with_reducible apply heap_new); (try simp only [World.size_alloc, World.size_setCell, World.size_drew, World.heap_drewN]); omega) | (with_reducible refine heap_old (by (try simp only [World.size_alloc, World.size_setCell, World.size_drew, World.heap_drewN]); omega) ?_) | (with_reducible refine heap_drew ?_) | (with_reducible refine heap_far (by omega) ?_) | (with_reducible apply heap_at))); all_goals rfl)
  rintro w1 ⟨b_w1, s0_w1, s1_w1, s2_w1⟩
  have a_w1 := b_w1
  have r0_w1 := own_row s0_w1
  have f0_w1 := own_free s0_w1
  have l0_w1 := own_lt s0_w1
  have r1_w1 := own_row s1_w1
  have f1_w1 := own_free s1_w1
  have l1_w1 := own_lt s1_w1
  have r2_w1 := own_row s2_w1
  have f2_w1 := own_free s2_w1
  have l2_w1 := own_lt s2_w1
  have z_w1 := b_w1.below.size
  have C := look_chain ps c _ 23 #[.pointer (some ⟨w.heap.size, 0, none⟩), .pointer (some ⟨w.heap.size + 1, 0, none⟩), .pointer (some ⟨w.heap.size + 1 + 1, 0, none⟩)] w1 (fun w2 => ∃ w3, AnyLater w1 w3 ∧ w2 = w3.setCell ⟨w.heap.size + 1 + 1, 0, none⟩ (.bool r)) (HC.out.later a_w1) h1 (fun _ => is_calls _ _) (fun w2 h2 => (is_do ps c o _ _ _ _ w2 r HR.out (HC.out.later (a_w1.trans h2)) (any_own h2 s0_w1) (any_own h2 s1_w1) _ (any_own h2 s2_w1)).mono fun e w3 ⟨he, hw⟩ => ⟨he, w2, h2, hw⟩)
  refine C.mono ?_
  rintro e w2 ⟨rfl, w3, h3, rfl⟩
  have s := heap_at (v := .bool r) (i := 0) (any_own h3 s2_w1) rfl
  have r' := own_row s 0
  have HW := Lib.hid ((a_w1.trans h3).setCell (p := ⟨w.heap.size + 1 + 1, 0, none⟩) (by (try dsimp only); omega) (.bool r))
  clear s h3 C
  go_wp2_with fail
  go_ret
  exact ⟨rfl, HW.out⟩
end Go.Proofs.YtfocpgnhbabeiaaDoor
