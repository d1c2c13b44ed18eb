/- fault: the law on what is told of any error that was made, about OK; and contracts within a class of later worlds. -/
import Derived.Test.YtfocpgnhbabeiaaDoorFaultN
namespace Go.Proofs.YtfocpgnhbabeiaaDoor
set_option linter.unusedSimpArgs false
set_option linter.unusedVariables false
set_option linter.unusedSectionVars false
open Go.RowKit Go.Extern.Stop Go.Stop Go.Extern

theorem own_form {w : World} {B : Nat} {e : TypeId} {size : Nat} {v : Value} {n : Nat} {xs : List Value} (o : w.ownsRow B e size v n xs) : ∃ a cp, v = .slice a n cp := by
  rcases o.2 with ⟨rfl, rfl⟩ | ⟨g, cap, cur, rfl, _⟩
  · exact ⟨_, _, rfl⟩
  · exact ⟨_, _, rfl⟩
set_option maxRecDepth 100000 in
set_option maxHeartbeats 1600000 in
theorem tells_zero (v0 : Value) (zs : List Int) (o : Int) (w : World) (hi : Ints w w.heap.size v0 zs) (hg : Glob w) :
    Calls Tryd.prog 3 #[v0, .int .i64 0, .int .i64 o] w fun e w' => e = .returned (.bool true) ∧ AnyLater w w' := by
  have C1 := Lib.hid (few_any v0 zs w hi)
  have HG := Lib.hid hg
  have hl : (zs.take 20).length ≤ 20 := by rw [List.length_take]; omega
  clear hi hg
  generalize zs.take 20 = ys at *
  go_enter Tryd.func3, Tryd.ntmps3
  go_wp2_with fail
  refine C1.out.mono ?_
  rintro e w1 ⟨v1, rfl, a_w1, o1⟩
  obtain ⟨a, cp, rfl⟩ := own_form o1
  have O1 := Lib.hid o1
  clear o1 C1
  go_wp2_with fail
  first | refine settle_wp (fun wS => AnyLater w1 wS ∧ wS.heap[w1.heap.size]? = some (.cells #[.slice a ys.length cp, .int .i64 0] 26)) ?_ ?_ | refine settle_calls (fun wS => AnyLater w1 wS ∧ wS.heap[w1.heap.size]? = some (.cells #[.slice a ys.length cp, .int .i64 0] 26)) ?_ ?_
  · refine ⟨?_, ?_⟩
    · repeat' (first | with_reducible assumption | with_reducible exact AnyLater.refl _ | with_reducible apply AnyLater.setCell | with_reducible apply AnyLater.later | with_reducible apply AnyLater.drewN | with_reducible apply AnyLater.drew | with_reducible apply AnyLater.alloc | ((try simp only [World.size_alloc, World.size_setCell, World.size_drew]); (try dsimp only); omega))
    · ((repeat (first | with_reducible assumption | ((with_reducible apply heap_new); (try simp only [World.size_alloc, World.size_setCell, World.size_drew, World.heap_drewN]); done) | ((with_reducible apply heap_new); (try simp only [World.size_alloc, World.size_setCell, World.size_drew, World.heap_drewN]); omega) | (with_reducible refine heap_old (by (try simp only [World.size_alloc, World.size_setCell, World.size_drew, World.heap_drewN]); omega) ?_) | (with_reducible refine heap_drew ?_) | (with_reducible refine heap_far (by omega) ?_) | (with_reducible apply heap_at))); all_goals rfl)
  rintro w2 ⟨b_w2, s0_w2⟩
  have a_w2 := a_w1.trans b_w2
  have r0_w2 := own_row s0_w2
  have f0_w2 := own_free s0_w2
  have l0_w2 := own_lt s0_w2
  have z_w2 := b_w2.below.size
  refine (made_zero _ ys w2 _ (owns_later b_w2 O1.out) hl).mono ?_
  rintro e w3 ⟨rfl, b_w3⟩
  have a_w3 := a_w2.trans b_w3
  clear b_w3 O1
  go_wp2_with fail
  refine (where_nil _).mono ?_
  rintro e w4 ⟨rfl, b_w4⟩
  have z_w4 := b_w4.below.size
  have a_w4 := a_w3.trans b_w4
  go_wp2_with fail
  refine (code_nil _).mono ?_
  rintro e w5 ⟨rfl, b_w5⟩
  have z_w5 := b_w5.below.size
  have a_w5 := a_w4.trans b_w5
  go_wp2_with fail
  refine (fis_nil _ _).mono ?_
  rintro e w6 ⟨rfl, b_w6⟩
  have z_w6 := b_w6.below.size
  have a_w6 := a_w5.trans b_w6
  go_wp2_with fail
  refine (Path_nil _).mono ?_
  rintro e w7 ⟨rfl, b_w7⟩
  have z_w7 := b_w7.below.size
  have a_w7 := a_w6.trans b_w7
  go_wp2_with fail
  refine (depth_nil _).mono ?_
  rintro e w8 ⟨rfl, rfl⟩
  go_wp2_with fail
  refine (lives_any _ (HG.out.later a_w7)).mono ?_
  rintro e w8 ⟨rfl, b_w8⟩
  have z_w8 := b_w8.below.size
  have a_w8 := a_w7.trans b_w8
  go_wp2_with fail
  go_ret
  exact ⟨rfl, a_w8⟩

/-! ### contracts in a class of later worlds -/
theorem depth_in (ps : List Int) (n : Nat) (c : Int) (er : Value) (W w : World) (hc : Chain W ps c er) (ha : AnyLater W w) (hn : ps.length = n) (h1 : n ≤ 100) :
    Calls Tryd.prog 12 #[er] w fun e w' => e = .returned (.int .i64 (n + 1)) ∧ AnyLater w w' := by
  subst hn
  exact depth_chain ps c er w (hc.later ha) (by omega)
theorem code_in (ps : List Int) (c : Int) (er : Value) (W w : World) (hg : Glob W) (hc : Chain W ps c er) (ha : AnyLater W w) (h1 : ps.length ≤ 100) :
    Calls Tryd.prog 9 #[er] w fun e w' => e = .returned (.int .i64 c) ∧ AnyLater w w' :=
  code_chain ps c er w (hg.later ha) (hc.later ha) (by omega)
theorem fis_in (ps : List Int) (c o : Int) (er : Value) (W w : World) (r : Bool) (hr : (c == o) = r) (hc : Chain W ps c er) (ha : AnyLater W w) (h1 : ps.length ≤ 100) :
    Calls Tryd.prog 10 #[er, .int .i64 o] w fun e w' => e = .returned (.bool r) ∧ AnyLater w w' :=
  fis_chain ps c o er w r hr (hc.later ha) (by omega)
end Go.Proofs.YtfocpgnhbabeiaaDoor
