/- fault: Path of no error; Where; Of and New; First. -/
import Derived.Test.YtfocpgnhbabeiaaDoorFaultJ
namespace Go.Proofs.YtfocpgnhbabeiaaDoor
set_option linter.unusedSimpArgs false
set_option linter.unusedVariables false
set_option linter.unusedSectionVars false
open Go.RowKit Go.Extern.Stop Go.Stop Go.Extern

theorem As_nil (t : Value) (w : World) :
    Calls Tryd.prog 17 #[.nilIface, t] w fun e w' => e = .returned (.bool false) ∧ w = w' := by
  go_enter Tryd.func17, Tryd.ntmps17
  go_wp2_with fail
  go_ret
  exact ⟨rfl, rfl⟩
theorem path_nil (lb : Nat) (w : World) :
    Calls Tryd.prog 25 #[.nilIface, .pointer (some ⟨lb, 0, none⟩)] w fun e w' => e = .returned (.tuple #[]) ∧ AnyLater w w' := by
  have HL := Lib.hid ((AnyLater.refl w).alloc (.cells #[.pointer none] 41))
  go_enter Tryd.func25, Tryd.ntmps25
  go_wp2_with fail
  refine wp_loop_rounds 1 ?_
  rw [rounds_succ]
  go_wp2_with fail
  refine (As_nil _ _).mono ?_
  rintro e w1 ⟨rfl, rfl⟩
  go_wp2_with fail
  go_end0
  exact ⟨rfl, HL.out⟩
theorem path_do_nil (g k : Nat) (w : World) (hgv : w.heap[g]? = some (.cells #[.nilIface] 28)) :
    Calls Tryd.prog 24 #[.pointer (some ⟨g, 0, none⟩), .pointer (some ⟨k, 0, none⟩)] w fun e w' => e = .returned (.tuple #[]) ∧ AnyLater w w' := by
  have r0 := own_row hgv 0
  clear hgv
  go_enter Tryd.func24, Tryd.ntmps24
  go_wp2_with fail
  refine (path_nil _ _).mono ?_
  rintro e w1 ⟨rfl, hw⟩
  have HW := Lib.hid hw
  clear hw
  go_wp2_with fail
  go_end0
  exact ⟨rfl, HW.out⟩
theorem Path_nil (w : World) :
    Calls Tryd.prog 11 #[.nilIface] w fun e w' => e = .returned (.slice none 0 0) ∧ AnyLater w w' := by
  have hmf : ∀ (fn : Fn) (first cap : Array Value) (w : World), (Instr.makeFunc fn first cap).run Tryd.prog w = .ok (.func fn first cap) w := fun _ _ _ _ => rfl
  go_enter Tryd.func11, Tryd.ntmps11
  go_wp2_with fail
  first | refine settle_wp (fun wS => AnyLater w wS ∧ wS.heap[w.heap.size]? = some (.cells #[.nilIface] 28) ∧ wS.heap[w.heap.size + 1]? = some (.cells #[.slice none 0 0] 22)) ?_ ?_ | refine settle_calls (fun wS => AnyLater w wS ∧ wS.heap[w.heap.size]? = some (.cells #[.nilIface] 28) ∧ wS.heap[w.heap.size + 1]? = some (.cells #[.slice none 0 0] 22)) ?_ ?_
  · refine ⟨?_, ?_, ?_⟩
    · repeat' (first | with_reducible assumption | with_reducible exact AnyLater.refl _ | with_reducible apply AnyLater.setCell | with_reducible apply AnyLater.later | with_reducible apply AnyLater.drewN | with_reducible apply AnyLater.drew | with_reducible apply AnyLater.alloc | ((try simp only [World.size_alloc, World.size_setCell, World.size_drew]); (try dsimp only); omega))
    · ((repeat (first | with_reducible assumption | ((with_reducible apply heap_new); (try simp only [World.size_alloc, World.size_setCell, World.size_drew, World.heap_drewN]); done) | ((with_reducible apply heap_new); (try simp only [World.size_alloc, World.size_setCell, World.size_drew, World.heap_drewN]); omega) | (with_reducible refine heap_old (by (try simp only [World.size_alloc, World.size_setCell, World.size_drew, World.heap_drewN]); omega) ?_) | (with_reducible refine heap_drew ?_) | (with_reducible refine heap_far (by omega) ?_) | (with_reducible apply heap_at))); all_goals rfl)
    · ((repeat (first | with_reducible assumption | ((with_reducible apply heap_new); (try simp only [World.size_alloc, World.size_setCell, World.size_drew, World.heap_drewN]); done) | ((with_reducible apply heap_new); (try simp only [World.size_alloc, World.size_setCell, World.size_drew, World.heap_drewN]); omega) | (with_reducible refine heap_old (by (try simp only [World.size_alloc, World.size_setCell, World.size_drew, World.heap_drewN]); omega) ?_) | (with_reducible refine heap_drew ?_) | (with_reducible refine heap_far (by omega) ?_) | (with_reducible apply heap_at))); all_goals rfl)
  rintro w1 ⟨b_w1, s0_w1, s1_w1⟩
  have a_w1 := b_w1
  have r0_w1 := own_row s0_w1
  have f0_w1 := own_free s0_w1
  have l0_w1 := own_lt s0_w1
  have r1_w1 := own_row s1_w1
  have f1_w1 := own_free s1_w1
  have l1_w1 := own_lt s1_w1
  have z_w1 := b_w1.below.size
  have C := look_nil 24 #[.pointer (some ⟨w.heap.size, 0, none⟩), .pointer (some ⟨w.heap.size + 1, 0, none⟩)] w1 (fun w2 => AnyLater w1 w2) (fun _ => path_calls _ _) (fun w2 h2 => (path_do_nil _ _ w2 (any_own h2 s0_w1)).mono fun e w3 ⟨he, h3⟩ => ⟨he, h2.trans h3⟩)
  refine C.mono ?_
  rintro e w2 ⟨rfl, h2⟩
  have r := own_row (any_own h2 s1_w1) 0
  have H := Lib.hid (a_w1.trans h2)
  clear C h2
  go_wp2_with fail
  go_ret
  exact ⟨rfl, H.out⟩
theorem where_nil (w : World) :
    Calls Tryd.prog 8 #[.nilIface] w fun e w' => e = .returned (.tuple #[.int .i64 0, .bool false]) ∧ AnyLater w w' := by
  go_enter Tryd.func8, Tryd.ntmps8
  go_wp2_with fail
  refine (Path_nil _).mono ?_
  rintro e w1 ⟨rfl, hw⟩
  have HW := Lib.hid hw
  clear hw
  go_wp2_with fail
  go_ret2
  exact ⟨rfl, HW.out⟩
/-- a row of numbers, read -/
theorem owns_cell {w : World} {B : Nat} {v : Value} {n : Nat} {l : List Int} (o : w.ownsRow B 3 1 v n (l.map (Value.int .i64))) (hn : 0 < n) : ∃ g cap, v = .slice (some ⟨g, 0, none⟩) n cap ∧ n ≤ cap ∧ cap ≤ maxLen ∧ B ≤ g ∧ g < w.heap.size ∧ ∀ (j : Nat) (h : j < l.length), w.cell? ⟨g, j, none⟩ = some (.int .i64 l[j]) := by
  have hl := o.1
  rw [List.length_map, Nat.mul_one] at hl
  rcases o.2 with ⟨_, h0⟩ | ⟨g, cap, cur, rfl, h2, h3, h4, h5, h6, h7⟩
  · omega
  · refine ⟨g, cap, rfl, h4, h5, h2, own_lt h3, fun j hj => ?_⟩
    rw [own_row h3 j]
    have : (cur.toList.take (n * 1))[j]? = some (.int .i64 l[j]) := by rw [h7]; simp [hj]
    rw [List.getElem?_take_of_lt (by omega)] at this
    simpa using this
theorem where_code (c : Int) (w : World) (hg : Glob w) :
    Calls Tryd.prog 8 #[.iface 23 (.int .i64 c)] w fun e w' => e = .returned (.tuple #[.int .i64 0, .bool false]) ∧ AnyLater w w' := by
  have C := Lib.hid (Path_chain [] c _ w hg rfl (by decide))
  clear hg
  go_enter Tryd.func8, Tryd.ntmps8
  go_wp2_with fail
  refine C.out.mono ?_
  rintro e w1 ⟨v, rfl, hw, ho⟩
  rcases ho.2 with ⟨rfl, _⟩ | ⟨g, cap, cur, rfl, h2, h3, h4, h5, h6, h7⟩
  all_goals
    have HW := Lib.hid hw
    clear hw ho
    go_wp2_with fail
    go_ret2
    exact ⟨rfl, HW.out⟩
theorem where_chain (p : Int) (ps : List Int) (c : Int) (er : Value) (w : World) (hg : Glob w) (hc : Chain w (p :: ps) c er) (h1 : (p :: ps).length < 131072) :
    Calls Tryd.prog 8 #[er] w fun e w' => e = .returned (.tuple #[.int .i64 p, .bool true]) ∧ AnyLater w w' := by
  have C := Lib.hid (Path_chain (p :: ps) c _ w hg hc h1)
  clear hg hc
  go_enter Tryd.func8, Tryd.ntmps8
  go_wp2_with fail
  refine C.out.mono ?_
  rintro e w1 ⟨v, rfl, hw, ho⟩
  obtain ⟨g, cap, rfl, _, _, _, _, hcell⟩ := owns_cell ho (by simp)
  have c0 : w1.cell? ⟨g, 0, none⟩ = some (.int .i64 p) := hcell 0 (by simp)
  have hpos : 0 < (p :: ps).length := by simp
  have HW := Lib.hid hw
  clear hw ho hcell C
  generalize (p :: ps).length = m at *
  have hlen : (((m : Nat) : Int) == 0) = false := by simp; omega
  go_wp2_with fail
  go_ret2
  exact ⟨rfl, HW.out⟩

/-! ### Of, New -/
theorem of_nil (x : Int) (w : World) :
    Calls Tryd.prog 15 #[.int .i64 x, .nilIface] w fun e w' => e = .returned .nilIface ∧ w = w' := by
  go_enter Tryd.func15, Tryd.ntmps15
  go_wp2_with fail
  go_ret
  exact ⟨rfl, rfl⟩
/-- a new error that was made of places about a code -/
def IsMade (W : World) (ps : List Int) (c : Int) (e : Ending) (w' : World) : Prop := ∃ v, e = .returned v ∧ AnyLater W w' ∧ Chain w' ps c v
theorem of_chain (x : Int) (ps : List Int) (c : Int) (er : Value) (w : World) (hc : Chain w ps c er) :
    Calls Tryd.prog 15 #[.int .i64 x, er] w fun e w' => e = .returned (.iface 41 (.pointer (some ⟨w.heap.size, 0, none⟩))) ∧ AnyLater w w' ∧ w'.heap[w.heap.size]? = some (.cells #[.int .i64 x, er] 45) := by
  obtain ⟨tq, vq, rfl⟩ := hc.iface
  clear hc
  go_enter Tryd.func15, Tryd.ntmps15
  go_wp2_with fail
  go_ret
  exact ⟨rfl, (AnyLater.refl w).alloc _, heap_new rfl⟩
theorem new_ok (x : Int) (w : World) :
    Calls Tryd.prog 18 #[.int .i64 x, .int .i64 0] w fun e w' => e = .returned .nilIface ∧ w = w' := by
  go_enter Tryd.func18, Tryd.ntmps18
  go_wp2_with fail
  go_ret
  exact ⟨rfl, rfl⟩
theorem new_code (x c : Int) (w : World) (hc : (c == 0) = false) :
    Calls Tryd.prog 18 #[.int .i64 x, .int .i64 c] w fun e w' => e = .returned (.iface 41 (.pointer (some ⟨w.heap.size, 0, none⟩))) ∧ AnyLater w w' ∧ w'.heap[w.heap.size]? = some (.cells #[.int .i64 x, .iface 23 (.int .i64 c)] 45) := by
  go_enter Tryd.func18, Tryd.ntmps18
  go_wp2_with fail
  refine (of_chain x [] c _ w rfl).mono ?_
  rintro e w1 ⟨rfl, hw⟩
  have HW := Lib.hid hw
  clear hw
  go_wp2_with fail
  go_ret
  exact ⟨rfl, HW.out⟩
end Go.Proofs.YtfocpgnhbabeiaaDoor
