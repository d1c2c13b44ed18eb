/- fault: made, an error of places about a code. -/
import Derived.Test.YtfocpgnhbabeiaaDoorFaultL
namespace Go.Proofs.YtfocpgnhbabeiaaDoor
set_option linter.unusedSimpArgs false
set_option linter.unusedVariables false
set_option linter.unusedSectionVars false
open Go.RowKit Go.Extern.Stop Go.Stop Go.Extern

theorem made_none_ok (v : Value) (w : World) (B : Nat) (ho : w.ownsRow B 3 1 v 0 []) :
    Calls Tryd.prog 7 #[.agg #[v, .int .i64 0]] w fun e w' => e = .returned .nilIface ∧ AnyLater w w' := by
  have hv : ∃ a c, v = .slice a 0 c := by
    rcases ho.2 with ⟨rfl, _⟩ | ⟨g, cap, cur, rfl, _⟩
    · exact ⟨_, _, rfl⟩
    · exact ⟨_, _, rfl⟩
  obtain ⟨a, cp, rfl⟩ := hv
  have HL := Lib.hid ((AnyLater.refl w).alloc (.cells #[.slice a 0 cp, .int .i64 0] 26))
  clear ho
  go_enter Tryd.func7, Tryd.ntmps7
  go_wp2_with fail
  go_ret
  exact ⟨rfl, HL.out⟩
theorem made_none (v : Value) (c : Int) (w : World) (B : Nat) (ho : w.ownsRow B 3 1 v 0 []) (hc : (c == 0) = false) :
    Calls Tryd.prog 7 #[.agg #[v, .int .i64 c]] w fun e w' => e = .returned (.iface 23 (.int .i64 c)) ∧ AnyLater w w' := by
  have hv : ∃ a c, v = .slice a 0 c := by
    rcases ho.2 with ⟨rfl, _⟩ | ⟨g, cap, cur, rfl, _⟩
    · exact ⟨_, _, rfl⟩
    · exact ⟨_, _, rfl⟩
  obtain ⟨a, cp, rfl⟩ := hv
  have HL := Lib.hid ((AnyLater.refl w).alloc (.cells #[.slice a 0 cp, .int .i64 c] 26))
  clear ho
  go_enter Tryd.func7, Tryd.ntmps7
  go_wp2_with fail
  go_ret
  exact ⟨rfl, HL.out⟩
set_option maxRecDepth 100000 in
theorem made_chain (gs m cap : Nat) (cur : Array Value) (zs : List Int) (c : Int) (w : World) (hl : zs.length = m + 1) (hm : m < 20) (hg : w.heap[gs]? = some (.cells cur 3)) (hc : (c == 0) = false) (hcell : ∀ (j : Nat) (h : j < zs.length), cur[j]? = some (.int .i64 zs[j])) :
    Calls Tryd.prog 7 #[.agg #[.slice (some ⟨gs, 0, none⟩) (m + 1) cap, .int .i64 c]] w (IsMade w zs c) := by
  have lg := own_lt hg
  have H0 := Lib.hid hcell
  have HN := Lib.hid hl
  clear hcell hl
  go_enter Tryd.func7, Tryd.ntmps7
  go_wp2_with fail
  first | refine settle_wp (fun wS => AnyLater w wS ∧ wS.heap[w.heap.size]? = some (.cells #[.slice (some ⟨gs, 0, none⟩) (m + 1) cap, .int .i64 c] 26) ∧ wS.heap[gs]? = some (.cells cur 3 (0, 0))) ?_ ?_ | refine settle_calls (fun wS => AnyLater w wS ∧ wS.heap[w.heap.size]? = some (.cells #[.slice (some ⟨gs, 0, none⟩) (m + 1) cap, .int .i64 c] 26) ∧ wS.heap[gs]? = some (.cells cur 3 (0, 0))) ?_ ?_
  · refine ⟨?_, ?_, ?_⟩
    · repeat' (first | with_reducible assumption | with_reducible exact AnyLater.refl _ | with_reducible apply AnyLater.setCell | with_reducible apply AnyLater.later | with_reducible apply AnyLater.drewN | with_reducible apply AnyLater.drew | with_reducible apply AnyLater.alloc | ((try simp only [World.size_alloc, World.size_setCell, World.size_drew]); (try dsimp only); omega))
    · ((repeat (first | with_reducible assumption | ((with_reducible apply heap_new); (try simp only [World.size_alloc, World.size_setCell, World.size_drew, World.heap_drewN]); done) | ((with_reducible apply heap_new); (try simp only [World.size_alloc, World.size_setCell, World.size_drew, World.heap_drewN]); omega) | (with_reducible refine heap_old (by (try simp only [World.size_alloc, World.size_setCell, World.size_drew, World.heap_drewN]); omega) ?_) | (with_reducible refine heap_drew ?_) | (with_reducible refine heap_far (by omega) ?_) | (with_reducible apply heap_at))); all_goals rfl)
    · ((repeat (first | with_reducible assumption | ((with_reducible apply heap_new); (try simp only [World.size_alloc, World.size_setCell, World.size_drew, World.heap_drewN]); done) | ((with_reducible apply heap_new); (try simp only [World.size_alloc, World.size_setCell, World.size_drew, World.heap_drewN]); omega) | (with_reducible refine heap_old (by (try simp only [World.size_alloc, World.size_setCell, World.size_drew, World.heap_drewN]); omega) ?_) | (with_reducible refine heap_drew ?_) | (with_reducible refine heap_far (by omega) ?_) | (with_reducible apply heap_at))); all_goals rfl)
  rintro w1 ⟨b_w1, s0_w1, s1_w1⟩
  have a_w1 := b_w1
  have r0_w1 := own_row s0_w1
  have f0_w1 := own_free s0_w1
  have l0_w1 := own_lt s0_w1
  have r1_w1 := own_row s1_w1
  have f1_w1 := own_free s1_w1
  have l1_w1 := own_lt s1_w1
  have z_w1 := b_w1.below.size
  have HA := Lib.hid a_w1
  have hz : m < zs.length := by rw [HN.out]; omega
  have cm := H0.out m hz
  clear hg
  apply wp_region_mem (10) [] (by kernel_rfl) (by kernel_rfl) (by simp)
  case hstab =>
    intro e he v x y hxy hv
    simp only [List.mem_cons, List.not_mem_nil, or_false] at he
  case hlex =>
    intro U
    have q0 := fun (v : Later (later U)) => own_row (any_own ⟨v, rfl⟩ (any_own ⟨U, rfl⟩ s0_w1))
    have q1 := fun (v : Later (later U)) => own_row (any_own ⟨v, rfl⟩ (any_own ⟨U, rfl⟩ s1_w1))
    simp only [absFrom, absOp, idx, List.map_cons, List.map_nil, List.contains_cons, List.contains_nil, Nat.reduceBEq, Bool.or_false, Bool.false_or, Bool.true_or, Bool.or_true, Bool.false_eq_true, Nat.reduceLeDiff, Nat.reduceAdd, if_false, if_true]
    repeat (go_big_quiet_step (first | fail))
    exact wpQuiet_nil rfl
  case hown =>
    intro e he o ho
    simp only [List.mem_cons, List.not_mem_nil, or_false] at he
  case htail =>
    intro g u hst hne
    have b_w2 : AnyLater w1 (later u) := ⟨u, rfl⟩
    generalize later u = w2 at *
    clear u
    clear hst hne
    simp only [fillAll, Act.put, List.setIfInBounds_toArray, List.set_cons_zero, List.set_cons_succ, List.drop_succ_cons, List.drop_zero]
    have z_w2 := b_w2.below.size
    have a_w2 := a_w1.trans b_w2
    have s0_w2 := any_own b_w2 s0_w1
    have s1_w2 := any_own b_w2 s1_w1
    have r0_w2 := own_row s0_w2
    have f0_w2 := own_free s0_w2
    have l0_w2 := own_lt s0_w2
    have r1_w2 := own_row s1_w2
    have f1_w2 := own_free s1_w2
    have l1_w2 := own_lt s1_w2
    (try clear r0_w1); (try clear f0_w1)
    (try clear r1_w1); (try clear f1_w1)
    go_wp2_with fail
    refine (new_code _ _ _ hc).mono ?_
    rintro e w3 ⟨rfl, b_w3, sN⟩
    have s0_w3 := any_own b_w3 s0_w2
    have s1_w3 := any_own b_w3 s1_w2
    have r0_w3 := own_row s0_w3
    have HB := Lib.hid (AnyLater.trans a_w2 b_w3)
    have HS := Lib.hid (And.intro sN (And.intro s0_w3 s1_w3))
    clear sN b_w3 s0_w3 s1_w3 cm
    go_wp2_with fail
    go_loopg [3, 4] m (fun k e i wr => k ≤ m ∧ i = .int .i64 ((k : Int) - 1) ∧ AnyLater w3 wr ∧ Chain wr (zs.drop k) c e)
    case atStart =>
      refine ⟨Nat.le_refl _, by congr 1; omega, AnyLater.refl _, ?_⟩
      rw [List.drop_eq_getElem_cons hz, List.drop_of_length_le (Nat.le_of_eq HN.out)]
      exact ⟨_, _, rfl, HS.out.1, rfl⟩
    case round =>
      obtain ⟨hk, rfl, ha, hq⟩ := hrel
      obtain ⟨tq, vq, rfl⟩ := hq.iface
      cases gk with
      | zero =>
        have HQ := Lib.hid (And.intro ha hq)
        clear ha hq
        go_wp2_with fail
        go_ret
        exact ⟨_, rfl, HB.out.trans HQ.out.1, HQ.out.2⟩
      | succ j =>
        have rfl' : ((j + 1 : Nat) : Int) - 1 = (j : Int) := by omega
        rw [rfl']
        have s0 := any_own ha HS.out.2.1
        have s1 := any_own ha HS.out.2.2
        have r0 := own_row s0 0
        have lj : j < zs.length := by omega
        have r1 : wr.cell? ⟨gs, j, none⟩ = some (.int .i64 zs[j]) := by rw [own_row s1 j]; exact H0.out j lj
        have C := Lib.hid (of_chain zs[j] _ c _ wr hq)
        have HQ := Lib.hid (And.intro ha hq)
        clear ha hq s0 s1 rfl'
        go_wp2_with fail
        refine C.out.mono ?_
        rintro e w5 ⟨rfl, b5, s5⟩
        have HR := Lib.hid (And.intro b5 s5)
        clear b5 s5
        go_wp2_with fail
        go_roundg j
        case measure => omega
        case rel =>
          refine ⟨by omega, by congr 1, HQ.out.1.trans HR.out.1, ?_⟩
          rw [List.drop_eq_getElem_cons lj]
          exact ⟨_, _, rfl, HR.out.2, HQ.out.2.later HR.out.1⟩

set_option maxRecDepth 100000 in
theorem made_ok (gs m cap : Nat) (cur : Array Value) (zs : List Int) (w : World) (hl : zs.length = m + 1) (hm : m < 20) (hg : w.heap[gs]? = some (.cells cur 3)) (hcell : ∀ (j : Nat) (h : j < zs.length), cur[j]? = some (.int .i64 zs[j])) :
    Calls Tryd.prog 7 #[.agg #[.slice (some ⟨gs, 0, none⟩) (m + 1) cap, .int .i64 0]] w fun e w' => e = .returned .nilIface ∧ AnyLater w w' := by
  have lg := own_lt hg
  have H0 := Lib.hid hcell
  have HN := Lib.hid hl
  clear hcell hl
  go_enter Tryd.func7, Tryd.ntmps7
  go_wp2_with fail
  first | refine settle_wp (fun wS => AnyLater w wS ∧ wS.heap[w.heap.size]? = some (.cells #[.slice (some ⟨gs, 0, none⟩) (m + 1) cap, .int .i64 0] 26) ∧ wS.heap[gs]? = some (.cells cur 3 (0, 0))) ?_ ?_ | refine settle_calls (fun wS => AnyLater w wS ∧ wS.heap[w.heap.size]? = some (.cells #[.slice (some ⟨gs, 0, none⟩) (m + 1) cap, .int .i64 0] 26) ∧ wS.heap[gs]? = some (.cells cur 3 (0, 0))) ?_ ?_
  · refine ⟨?_, ?_, ?_⟩
    · repeat' (first | with_reducible assumption | with_reducible exact AnyLater.refl _ | with_reducible apply AnyLater.setCell | with_reducible apply AnyLater.later | with_reducible apply AnyLater.drewN | with_reducible apply AnyLater.drew | with_reducible apply AnyLater.alloc | ((try simp only [World.size_alloc, World.size_setCell, World.size_drew]); (try dsimp only); omega))
    · ((repeat (first | with_reducible assumption | ((with_reducible apply heap_new); (try simp only [World.size_alloc, World.size_setCell, World.size_drew, World.heap_drewN]); done) | ((with_reducible apply heap_new); (try simp only [World.size_alloc, World.size_setCell, World.size_drew, World.heap_drewN]); omega) | (with_reducible refine heap_old (by (try simp only [World.size_alloc, World.size_setCell, World.size_drew, World.heap_drewN]); omega) ?_) | (with_reducible refine heap_drew ?_) | (with_reducible refine heap_far (by omega) ?_) | (with_reducible apply heap_at))); all_goals rfl)
    · ((repeat (first | with_reducible assumption | ((with_reducible apply heap_new); (try simp only [World.size_alloc, World.size_setCell, World.size_drew, World.heap_drewN]); done) | ((with_reducible apply heap_new); (try simp only [World.size_alloc, World.size_setCell, World.size_drew, World.heap_drewN]); omega) | (with_reducible refine heap_old (by (try simp only [World.size_alloc, World.size_setCell, World.size_drew, World.heap_drewN]); omega) ?_) | (with_reducible refine heap_drew ?_) | (with_reducible refine heap_far (by omega) ?_) | (with_reducible apply heap_at))); all_goals rfl)
  rintro w1 ⟨b_w1, s0_w1, s1_w1⟩
  have a_w1 := b_w1
  have r0_w1 := own_row s0_w1
  have f0_w1 := own_free s0_w1
  have l0_w1 := own_lt s0_w1
  have r1_w1 := own_row s1_w1
  have f1_w1 := own_free s1_w1
  have l1_w1 := own_lt s1_w1
  have z_w1 := b_w1.below.size
  have HA := Lib.hid a_w1
  have hz : m < zs.length := by rw [HN.out]; omega
  have cm := H0.out m hz
  clear hg
  apply wp_region_mem (10) [] (by kernel_rfl) (by kernel_rfl) (by simp)
  case hstab =>
    intro e he v x y hxy hv
    simp only [List.mem_cons, List.not_mem_nil, or_false] at he
  case hlex =>
    intro U
    have q0 := fun (v : Later (later U)) => own_row (any_own ⟨v, rfl⟩ (any_own ⟨U, rfl⟩ s0_w1))
    have q1 := fun (v : Later (later U)) => own_row (any_own ⟨v, rfl⟩ (any_own ⟨U, rfl⟩ s1_w1))
    simp only [absFrom, absOp, idx, List.map_cons, List.map_nil, List.contains_cons, List.contains_nil, Nat.reduceBEq, Bool.or_false, Bool.false_or, Bool.true_or, Bool.or_true, Bool.false_eq_true, Nat.reduceLeDiff, Nat.reduceAdd, if_false, if_true]
    repeat (go_big_quiet_step (first | fail))
    exact wpQuiet_nil rfl
  case hown =>
    intro e he o ho
    simp only [List.mem_cons, List.not_mem_nil, or_false] at he
  case htail =>
    intro g u hst hne
    have b_w2 : AnyLater w1 (later u) := ⟨u, rfl⟩
    generalize later u = w2 at *
    clear u
    clear hst hne
    simp only [fillAll, Act.put, List.setIfInBounds_toArray, List.set_cons_zero, List.set_cons_succ, List.drop_succ_cons, List.drop_zero]
    have z_w2 := b_w2.below.size
    have a_w2 := a_w1.trans b_w2
    have s0_w2 := any_own b_w2 s0_w1
    have s1_w2 := any_own b_w2 s1_w1
    have r0_w2 := own_row s0_w2
    have f0_w2 := own_free s0_w2
    have l0_w2 := own_lt s0_w2
    have r1_w2 := own_row s1_w2
    have f1_w2 := own_free s1_w2
    have l1_w2 := own_lt s1_w2
    (try clear r0_w1); (try clear f0_w1)
    (try clear r1_w1); (try clear f1_w1)
    go_wp2_with fail
    refine (new_ok _ _).mono ?_
    rintro e w3 ⟨rfl, rfl⟩
    have HB := Lib.hid a_w2
    have HS := Lib.hid (And.intro s0_w2 s1_w2)
    clear s0_w2 s1_w2 cm
    go_wp2_with fail
    go_loopg [3, 4] m (fun k e i wr => k ≤ m ∧ i = .int .i64 ((k : Int) - 1) ∧ wr = w2 ∧ e = .nilIface)
    case atStart => exact ⟨Nat.le_refl _, by congr 1; omega, rfl, rfl⟩
    case round =>
      obtain ⟨hk, rfl, rfl, rfl⟩ := hrel
      cases gk with
      | zero =>
        go_wp2_with fail
        go_ret
        exact ⟨rfl, HB.out⟩
      | succ j =>
        have rfl' : ((j + 1 : Nat) : Int) - 1 = (j : Int) := by omega
        rw [rfl']
        have r0 := own_row HS.out.1 0
        have lj : j < zs.length := by omega
        have r1 : wr.cell? ⟨gs, j, none⟩ = some (.int .i64 zs[j]) := by rw [own_row HS.out.2 j]; exact H0.out j lj
        have kc := H0.out j lj
        clear rfl'
        go_wp2_with fail
        refine (of_nil _ _).mono ?_
        rintro e w5 ⟨rfl, rfl⟩
        go_wp2_with fail
        go_roundg j
        case measure => omega
        case rel => exact ⟨by omega, by congr 1, rfl, rfl⟩

theorem own_cells {w : World} {B m : Nat} {v : Value} {zs : List Int} (ho : w.ownsRow B 3 1 v zs.length (zs.map (Value.int .i64))) (hl : zs.length = m + 1) :
    ∃ g cap cur, v = .slice (some ⟨g, 0, none⟩) (m + 1) cap ∧ w.heap[g]? = some (.cells cur 3) ∧ ∀ (j : Nat) (h : j < zs.length), cur[j]? = some (.int .i64 zs[j]) := by
  rcases ho.2 with ⟨_, h0⟩ | ⟨g, cap, cur, rfl, h2, h3, h4, h5, h6, h7⟩
  · omega
  · refine ⟨g, cap, cur, by rw [hl], h3, fun j hj => ?_⟩
    have : (cur.toList.take (zs.length * 1))[j]? = some (.int .i64 zs[j]) := by rw [h7]; simp [hj]
    rw [List.getElem?_take_of_lt (by omega)] at this
    simpa using this
/-- made of a row of at most twenty places, about OK -/
theorem made_zero (v : Value) (zs : List Int) (w : World) (B : Nat) (ho : w.ownsRow B 3 1 v zs.length (zs.map (Value.int .i64))) (h : zs.length ≤ 20) :
    Calls Tryd.prog 7 #[.agg #[v, .int .i64 0]] w fun e w' => e = .returned .nilIface ∧ AnyLater w w' := by
  cases hz : zs.length with
  | zero =>
    obtain rfl := List.eq_nil_of_length_eq_zero hz
    exact made_none_ok v w B ho
  | succ m =>
    obtain ⟨g, cap, cur, rfl, h3, h4⟩ := own_cells ho hz
    exact made_ok g m cap cur zs w hz (by omega) h3 h4
/-- made of a row of at most twenty places, about a code -/
theorem made_code (v : Value) (zs : List Int) (c : Int) (w : World) (B : Nat) (ho : w.ownsRow B 3 1 v zs.length (zs.map (Value.int .i64))) (h : zs.length ≤ 20) (hc : (c == 0) = false) :
    Calls Tryd.prog 7 #[.agg #[v, .int .i64 c]] w (IsMade w zs c) := by
  cases hz : zs.length with
  | zero =>
    obtain rfl := List.eq_nil_of_length_eq_zero hz
    exact (made_none v c w B ho hc).mono fun e w' ⟨he, hw⟩ => ⟨_, he, hw, rfl⟩
  | succ m =>
    obtain ⟨g, cap, cur, rfl, h3, h4⟩ := own_cells ho hz
    exact made_chain g m cap cur zs c w hz (by omega) h3 hc h4
end Go.Proofs.YtfocpgnhbabeiaaDoor
