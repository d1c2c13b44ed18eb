/- fault: look, which does what goes through an error, with its deferred recover. -/
import Derived.Test.YtfocpgnhbabeiaaDoorFaultG
namespace Go.Proofs.YtfocpgnhbabeiaaDoor
set_option linter.unusedSimpArgs false
set_option linter.unusedVariables false
set_option linter.unusedSectionVars false
open Go.RowKit Go.Extern.Stop Go.Stop Go.Extern

theorem look_idle (w : World) :
    CallsD Tryd.prog 33 #[] .returning w fun e u' w' => e = .returned (.tuple #[]) ∧ u' = .returning ∧ w = w' := by
  refine callsD_of_wpS Tryd.func33 rfl fun c₀ cs hu => ?_
  apply wpS_region
  simp [wpOpsS, go_sem, recoverD, hu, Tryd.ntmps33]
  cases c₀
  simp_all [bodyPostS, results, Tryd.results33]

theorem look_nil (f : Nat) (caps : Array Value) (w : World) (Q : World → Prop) (hcf : ∀ w, (callFunc f caps).run Tryd.prog w = .ok (.enter f caps) w) (hdo : ∀ w1, AnyLater w w1 → Calls Tryd.prog f caps w1 fun e w' => e = .returned (.tuple #[]) ∧ Q w') :
    Calls Tryd.prog 20 #[.nilIface, .func (.func f) #[] caps] w fun e w' => e = .returned (.tuple #[]) ∧ Q w' := by
  have H := Lib.hid (hdo w (AnyLater.refl w))
  clear hdo
  go_enter_defers Tryd.func20, Tryd.ntmps20
  go_wp2_with fail
  refine (count_nil _ _).mono ?_
  rintro e w1 ⟨rfl, rfl⟩
  go_wp2_with fail
  refine H.out.mono ?_
  rintro e w1 ⟨rfl, hq⟩
  have HQ := Lib.hid hq
  clear hq
  go_wp2_with fail
  refine leaves_cons (f := 33) (args := #[]) (by simp) (by simp [go_sem]) ?_
  refine (look_idle _).mono ?_
  rintro e u' w'' ⟨rfl, rfl, rfl⟩
  simp only [Leaves, settle, results, Tryd.results20]
  exact ⟨.tuple #[], by simp [go_sem], rfl, HQ.out⟩
theorem look_chain (ps : List Int) (c : Int) (er : Value) (f : Nat) (caps : Array Value) (w : World) (Q : World → Prop) (hc : Chain w ps c er) (h1 : ps.length < 131072) (hcf : ∀ w, (callFunc f caps).run Tryd.prog w = .ok (.enter f caps) w) (hdo : ∀ w1, AnyLater w w1 → Calls Tryd.prog f caps w1 fun e w' => e = .returned (.tuple #[]) ∧ Q w') :
    Calls Tryd.prog 20 #[er, .func (.func f) #[] caps] w fun e w' => e = .returned (.tuple #[]) ∧ Q w' := by
  have C := Lib.hid (count_chain ps c 0 er w hc (by omega) (by omega))
  have H := Lib.hid hdo
  clear hdo hc
  go_enter_defers Tryd.func20, Tryd.ntmps20
  go_wp2_with fail
  refine C.out.mono ?_
  rintro e w1 ⟨rfl, hw⟩
  have H2 := Lib.hid (H.out w1 hw)
  clear hw
  go_wp2_with fail
  refine H2.out.mono ?_
  rintro e w2 ⟨rfl, hq⟩
  have HQ := Lib.hid hq
  clear hq
  go_wp2_with fail
  refine leaves_cons (f := 33) (args := #[]) (by simp) (by simp [go_sem]) ?_
  refine (look_idle _).mono ?_
  rintro e u' w'' ⟨rfl, rfl, rfl⟩
  simp only [Leaves, settle, results, Tryd.results20]
  exact ⟨.tuple #[], by simp [go_sem], rfl, HQ.out⟩

/-! ### Code -/
theorem codeOf_nil (w : World) :
    Calls Tryd.prog 22 #[.nilIface] w fun e w' => e = .returned (.int .i64 0) ∧ w = w' := by
  go_enter Tryd.func22, Tryd.ntmps22
  go_wp2_with fail
  go_ret
  exact ⟨rfl, rfl⟩
theorem codeOf_chain (ps : List Int) (c : Int) (er : Value) (w : World) (hg : Glob w) (hc : Chain w ps c er) :
    Calls Tryd.prog 22 #[er] w fun e w' => e = .returned (.int .i64 c) ∧ AnyLater w w' := by
  have HL := Lib.hid ((AnyLater.refl w).alloc (.cells #[.int .i64 0] 23))
  have C := Lib.hid (As_C ps c er w.heap.size (.int .i64 0) (w.alloc (.cells #[.int .i64 0] 23)) (hc.later HL.out) (hg.later HL.out) (by simp) (by simp))
  obtain ⟨tq, vq, rfl⟩ := hc.iface
  clear hc hg
  go_enter Tryd.func22, Tryd.ntmps22
  go_wp2_with fail
  refine C.out.mono ?_
  rintro e w1 ⟨rfl, hw⟩
  have s0 : w1.heap[w.heap.size]? = some (.cells #[.int .i64 c] 23) := any_own hw (heap_at (heap_new rfl) rfl)
  have c0 : w1.cell? ⟨w.heap.size, 0, none⟩ = some (.int .i64 c) := own_row s0 0
  have HW := Lib.hid ((HL.out.setCell (p := ⟨w.heap.size, 0, none⟩) (Nat.le_refl _) (.int .i64 c)).trans hw)
  clear hw s0
  go_wp2_with fail
  go_ret
  exact ⟨rfl, HW.out⟩
/-- Code's closure: the code goes into the variable k; g holds the error -/
theorem code_do_nil (g k : Nat) (w : World) (hgv : w.heap[g]? = some (.cells #[.nilIface] 28)) (o : Value) (hk : w.heap[k]? = some (.cells #[o] 23)) :
    Calls Tryd.prog 21 #[.pointer (some ⟨g, 0, none⟩), .pointer (some ⟨k, 0, none⟩)] w fun e w' => e = .returned (.tuple #[]) ∧ w' = w.setCell ⟨k, 0, none⟩ (.int .i64 0) := by
  have r0 := own_row hgv 0
  have r1 := own_row hk 0
  have f1 := own_free hk 0
  clear hgv hk
  go_enter Tryd.func21, Tryd.ntmps21
  go_wp2_with fail
  refine (codeOf_nil _).mono ?_
  rintro e w1 ⟨rfl, rfl⟩
  go_wp2_with fail
  go_end0
  exact ⟨rfl, rfl⟩
theorem code_do (ps : List Int) (c : Int) (er : Value) (g k : Nat) (w : World) (hgl : Glob w) (hc : Chain w ps c er) (hgv : w.heap[g]? = some (.cells #[er] 28)) (o : Value) (hk : w.heap[k]? = some (.cells #[o] 23)) :
    Calls Tryd.prog 21 #[.pointer (some ⟨g, 0, none⟩), .pointer (some ⟨k, 0, none⟩)] w fun e w' => e = .returned (.tuple #[]) ∧ ∃ w1, AnyLater w w1 ∧ w' = w1.setCell ⟨k, 0, none⟩ (.int .i64 c) := by
  have r0 : w.cell? ⟨g, 0, none⟩ = some er := own_row hgv 0
  have HK := Lib.hid hk
  have C := Lib.hid (codeOf_chain ps c er w hgl hc)
  clear hgv hk hgl hc
  go_enter Tryd.func21, Tryd.ntmps21
  go_wp2_with fail
  refine C.out.mono ?_
  rintro e w1 ⟨rfl, hw⟩
  have hk := any_own hw HK.out
  have r1 := own_row hk 0
  have f1 := own_free hk 0
  have HW := Lib.hid hw
  clear hw hk
  go_wp2_with fail
  go_end0
  exact ⟨rfl, w1, HW.out, rfl⟩
theorem code_calls (caps : Array Value) (w : World) : (callFunc 21 caps).run Tryd.prog w = .ok (.enter 21 caps) w := by kernel_rfl
theorem code_nil (w : World) :
    Calls Tryd.prog 9 #[.nilIface] w fun e w' => e = .returned (.int .i64 0) ∧ AnyLater w w' := by
  have hmf : ∀ (fn : Fn) (first cap : Array Value) (w : World), (Instr.makeFunc fn first cap).run Tryd.prog w = .ok (.func fn first cap) w := fun _ _ _ _ => rfl
  go_enter Tryd.func9, Tryd.ntmps9
  go_wp2_with fail
  first | refine settle_wp (fun wS => AnyLater w wS ∧ wS.heap[w.heap.size]? = some (.cells #[.nilIface] 28) ∧ wS.heap[w.heap.size + 1]? = some (.cells #[.int .i64 8] 23)) ?_ ?_ | refine settle_calls (fun wS => AnyLater w wS ∧ wS.heap[w.heap.size]? = some (.cells #[.nilIface] 28) ∧ wS.heap[w.heap.size + 1]? = some (.cells #[.int .i64 8] 23)) ?_ ?_
  · refine ⟨?_, ?_, ?_⟩
    · repeat' (first | with_reducible assumption | with_reducible exact AnyLater.refl _ | with_reducible apply AnyLater.setCell | with_reducible apply AnyLater.later | with_reducible apply AnyLater.drewN | with_reducible apply AnyLater.drew | with_reducible apply AnyLater.alloc | ((try simp only [World.size_alloc, World.size_setCell, World.size_drew]); (try dsimp only); omega))
    · ((repeat (first | with_reducible assumption | ((with_reducible apply heap_new); (try simp only [World.size_alloc, World.size_setCell, World.size_drew, World.heap_drewN]); done) | ((with_reducible apply heap_new); (try simp only [World.size_alloc, World.size_setCell, World.size_drew, World.heap_drewN]); omega) | (with_reducible refine heap_old (by (try simp only [World.size_alloc, World.size_setCell, World.size_drew, World.heap_drewN]); omega) ?_) | (with_reducible refine heap_drew ?_) | (with_reducible refine heap_far (by omega) ?_) | (with_reducible apply heap_at))); all_goals rfl)
    · ((repeat (first | with_reducible assumption | ((with_reducible apply heap_new); (try simp only [World.size_alloc, World.size_setCell, World.size_drew, World.heap_drewN]); done) | ((with_reducible apply heap_new); (try simp only [World.size_alloc, World.size_setCell, World.size_drew, World.heap_drewN]); omega) | (with_reducible refine heap_old (by (try simp only [World.size_alloc, World.size_setCell, World.size_drew, World.heap_drewN]); omega) ?_) | (with_reducible refine heap_drew ?_) | (with_reducible refine heap_far (by omega) ?_) | (with_reducible apply heap_at))); all_goals rfl)
  rintro w1 ⟨b_w1, s0_w1, s1_w1⟩
  have a_w1 := b_w1
  have r0_w1 := own_row s0_w1
  have f0_w1 := own_free s0_w1
  have l0_w1 := own_lt s0_w1
  have r1_w1 := own_row s1_w1
  have f1_w1 := own_free s1_w1
  have l1_w1 := own_lt s1_w1
  have z_w1 := b_w1.below.size
  have C := look_nil 21 #[.pointer (some ⟨w.heap.size, 0, none⟩), .pointer (some ⟨w.heap.size + 1, 0, none⟩)] w1 (fun w2 => ∃ w3, AnyLater w1 w3 ∧ w2 = w3.setCell ⟨w.heap.size + 1, 0, none⟩ (.int .i64 0)) (fun _ => code_calls _ _) (fun w2 h2 => (code_do_nil _ _ w2 (any_own h2 s0_w1) _ (any_own h2 s1_w1)).mono fun e w3 ⟨he, hw⟩ => ⟨he, w2, h2, hw⟩)
  refine C.mono ?_
  rintro e w2 ⟨rfl, w3, h3, rfl⟩
  have s := heap_at (v := .int .i64 0) (i := 0) (any_own h3 s1_w1) rfl
  have r := own_row s 0
  have HW := Lib.hid ((a_w1.trans h3).setCell (p := ⟨w.heap.size + 1, 0, none⟩) (by simp) (.int .i64 0))
  clear s h3 C
  go_wp2_with fail
  go_ret
  exact ⟨rfl, HW.out⟩
theorem code_chain (ps : List Int) (c : Int) (er : Value) (w : World) (hg : Glob w) (hc : Chain w ps c er) (h1 : ps.length < 131072) :
    Calls Tryd.prog 9 #[er] w fun e w' => e = .returned (.int .i64 c) ∧ AnyLater w w' := by
  have hmf : ∀ (fn : Fn) (first cap : Array Value) (w : World), (Instr.makeFunc fn first cap).run Tryd.prog w = .ok (.func fn first cap) w := fun _ _ _ _ => rfl
  obtain ⟨tq, vq, rfl⟩ := hc.iface
  have HC := Lib.hid hc
  have HG := Lib.hid hg
  clear hc hg
  go_enter Tryd.func9, Tryd.ntmps9
  go_wp2_with fail
  first | refine settle_wp (fun wS => AnyLater w wS ∧ wS.heap[w.heap.size]? = some (.cells #[.iface tq vq] 28) ∧ wS.heap[w.heap.size + 1]? = some (.cells #[.int .i64 8] 23)) ?_ ?_ | refine settle_calls (fun wS => AnyLater w wS ∧ wS.heap[w.heap.size]? = some (.cells #[.iface tq vq] 28) ∧ wS.heap[w.heap.size + 1]? = some (.cells #[.int .i64 8] 23)) ?_ ?_
  · refine ⟨?_, ?_, ?_⟩
    · repeat' (first | with_reducible assumption | with_reducible exact AnyLater.refl _ | with_reducible apply AnyLater.setCell | with_reducible apply AnyLater.later | with_reducible apply AnyLater.drewN | with_reducible apply AnyLater.drew | with_reducible apply AnyLater.alloc | ((try simp only [World.size_alloc, World.size_setCell, World.size_drew]); (try dsimp only); omega))
    · ((repeat (first | with_reducible assumption | ((with_reducible apply heap_new); (try simp only [World.size_alloc, World.size_setCell, World.size_drew, World.heap_drewN]); done) | ((with_reducible apply heap_new); (try simp only [World.size_alloc, World.size_setCell, World.size_drew, World.heap_drewN]); omega) | (with_reducible refine heap_old (by (try simp only [World.size_alloc, World.size_setCell, World.size_drew, World.heap_drewN]); omega) ?_) | (with_reducible refine heap_drew ?_) | (with_reducible refine heap_far (by omega) ?_) | (with_reducible apply heap_at))); all_goals rfl)
    · ((repeat (first | with_reducible assumption | ((with_reducible apply heap_new); (try simp only [World.size_alloc, World.size_setCell, World.size_drew, World.heap_drewN]); done) | ((with_reducible apply heap_new); (try simp only [World.size_alloc, World.size_setCell, World.size_drew, World.heap_drewN]); omega) | (with_reducible refine heap_old (by (try simp only [World.size_alloc, World.size_setCell, World.size_drew, World.heap_drewN]); omega) ?_) | (with_reducible refine heap_drew ?_) | (with_reducible refine heap_far (by omega) ?_) | (with_reducible apply heap_at))); all_goals rfl)
  rintro w1 ⟨b_w1, s0_w1, s1_w1⟩
  have a_w1 := b_w1
  have r0_w1 := own_row s0_w1
  have f0_w1 := own_free s0_w1
  have l0_w1 := own_lt s0_w1
  have r1_w1 := own_row s1_w1
  have f1_w1 := own_free s1_w1
  have l1_w1 := own_lt s1_w1
  have z_w1 := b_w1.below.size
  have C := look_chain ps c _ 21 #[.pointer (some ⟨w.heap.size, 0, none⟩), .pointer (some ⟨w.heap.size + 1, 0, none⟩)] w1 (fun w2 => ∃ w3, AnyLater w1 w3 ∧ w2 = w3.setCell ⟨w.heap.size + 1, 0, none⟩ (.int .i64 c)) (HC.out.later a_w1) h1 (fun _ => code_calls _ _) (fun w2 h2 => (code_do ps c _ _ _ w2 (HG.out.later (a_w1.trans h2)) (HC.out.later (a_w1.trans h2)) (any_own h2 s0_w1) _ (any_own h2 s1_w1)).mono fun e w3 ⟨he, w4, h4, hw⟩ => ⟨he, w4, h2.trans h4, hw⟩)
  refine C.mono ?_
  rintro e w2 ⟨rfl, w3, h3, rfl⟩
  have s := heap_at (v := .int .i64 c) (i := 0) (any_own h3 s1_w1) rfl
  have r := own_row s 0
  have HW := Lib.hid ((a_w1.trans h3).setCell (p := ⟨w.heap.size + 1, 0, none⟩) (by simp) (.int .i64 c))
  clear s h3 C
  go_wp2_with fail
  go_ret
  exact ⟨rfl, HW.out⟩
end Go.Proofs.YtfocpgnhbabeiaaDoor
