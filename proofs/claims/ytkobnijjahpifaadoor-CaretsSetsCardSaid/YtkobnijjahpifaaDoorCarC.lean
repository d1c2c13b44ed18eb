/- carets, the program: Ends, chooses, byEnds, meets, join by contract; a row of carets in a block, written in place. -/
import Derived.Test.YtkobnijjahpifaaDoorCarA
import Derived.Test.YtkobnijjahpifaaDoorFree
import Derived.Deep.LoopGhost
import Derived.LoopN
import Derived.Lib.AppendZeros
import Derived.Deep.QuietTactic
import Derived.BigRegion
namespace Go.Proofs.YtkobnijjahpifaaDoor
set_option linter.unusedSimpArgs false
set_option linter.unusedVariables false
set_option linter.unusedSectionVars false
open Go.RowKit

/-! ### a row of carets in a block -/
def RowC (w : World) (g cap : Nat) (L : Qs) : Prop := ∃ cur, w.heap[g]? = some (.cells cur 45) ∧ L.length ≤ cap ∧ cur.size = cap * 2 ∧ ∀ (y : Nat) (x : Ca), L[y]? = some x → cur[y * 2]? = some (.int .i64 x.1) ∧ cur[y * 2 + 1]? = some (.int .i64 x.2)
theorem RowC.later {w w' : World} {g cap : Nat} {L : Qs} (ha : AnyLater w w') (h : RowC w g cap L) : RowC w' g cap L := by
  obtain ⟨cur, h1, h2⟩ := h
  exact ⟨cur, any_own ha h1, h2⟩
theorem RowC.cells {w : World} {g cap : Nat} {L : Qs} (h : RowC w g cap L) {y : Nat} {x : Ca} (hy : L[y]? = some x) : w.cell? ⟨g, y * 2, none⟩ = some (.int .i64 x.1) ∧ w.cell? ⟨g, y * 2 + 1, none⟩ = some (.int .i64 x.2) := by
  obtain ⟨cur, h1, h2, h3, h4⟩ := h
  obtain ⟨q1, q2⟩ := h4 y x hy
  rw [own_row h1, own_row h1]
  exact ⟨q1, q2⟩
theorem RowC.free {w : World} {g cap : Nat} {L : Qs} (h : RowC w g cap L) : ∀ j, w.frozen? ⟨g, j, none⟩ = false := by
  obtain ⟨cur, h1, _⟩ := h
  exact fun j => own_free h1 j
theorem RowC.lt {w : World} {g cap : Nat} {L : Qs} (h : RowC w g cap L) : g < w.heap.size := by
  obtain ⟨cur, h1, _⟩ := h
  exact own_lt h1
theorem RowC.put {w : World} {g cap : Nat} {L : Qs} (h : RowC w g cap L) {i : Nat} (x : Ca) (hi : i < L.length) : RowC ((w.setCell ⟨g, i * 2, none⟩ (.int .i64 x.1)).setCell ⟨g, i * 2 + 1, none⟩ (.int .i64 x.2)) g cap (L.set i x) := by
  obtain ⟨cur, h1, h2, h3, h4⟩ := h
  refine ⟨(cur.setIfInBounds (i * 2) (.int .i64 x.1)).setIfInBounds (i * 2 + 1) (.int .i64 x.2), heap_at (heap_at h1 rfl) rfl, by rw [List.length_set]; exact h2, by simpa using h3, ?_⟩
  intro y z hy
  by_cases e : i = y
  · subst e
    rw [List.getElem?_set_self hi] at hy
    cases hy
    refine ⟨?_, ?_⟩
    · rw [Array.getElem?_setIfInBounds_ne (by omega), Array.getElem?_setIfInBounds_self, if_pos (by omega)]
    · rw [Array.getElem?_setIfInBounds_self, if_pos (by rw [Array.size_setIfInBounds]; omega)]
  · rw [List.getElem?_set_ne e] at hy
    rw [Array.getElem?_setIfInBounds_ne (by omega), Array.getElem?_setIfInBounds_ne (by omega), Array.getElem?_setIfInBounds_ne (by omega), Array.getElem?_setIfInBounds_ne (by omega)]
    exact h4 y z hy
theorem RowC.swap {w : World} {g cap : Nat} {L : Qs} (h : RowC w g cap L) {i j : Nat} (x y : Ca) (hi : i < L.length) (hj : j < L.length) :
    RowC ((((w.setCell ⟨g, i * 2, none⟩ (.int .i64 y.1)).setCell ⟨g, i * 2 + 1, none⟩ (.int .i64 y.2)).setCell ⟨g, j * 2, none⟩ (.int .i64 x.1)).setCell ⟨g, j * 2 + 1, none⟩ (.int .i64 x.2)) g cap ((L.set i y).set j x) :=
  (h.put y hi).put x (by rw [List.length_set]; exact hj)
theorem AnyLater.put {W w : World} {g : Nat} (hg : W.heap.size ≤ g) (h : AnyLater W w) (i j : Nat) (u v : Value) : AnyLater W ((w.setCell ⟨g, i, none⟩ u).setCell ⟨g, j, none⟩ v) :=
  (h.setCell (p := ⟨g, i, none⟩) hg u).setCell (p := ⟨g, j, none⟩) hg v
/-- a row of the call's own, in its block -/
theorem RowC.of_own {w : World} {B : Nat} {v : Value} {l : Qs} (h : OQ 45 w B v l) : (l = [] ∧ v = .slice none 0 0) ∨ ∃ g cap, v = .slice (some ⟨g, 0, none⟩) l.length cap ∧ B ≤ g ∧ cap ≤ maxLen ∧ RowC w g cap l := by
  rcases h.2 with ⟨h1, h0⟩ | ⟨g, cap, cur, rfl, h2, h3, h4, h5, h6, h7⟩
  · exact .inl ⟨List.eq_nil_of_length_eq_zero h0, h1⟩
  · refine .inr ⟨g, cap, rfl, h2, h5, cur, h3, h4, h6, fun y x hx => ?_⟩
    have hy : y < l.length := (List.getElem?_eq_some_iff.1 hx).1
    have e : ∀ k, k < l.length * 2 → cur[k]? = (flatQ l)[k]? := fun k hk => by
      have : (cur.toList.take (l.length * 2))[k]? = (flatQ l)[k]? := by rw [h7]
      rw [List.getElem?_take_of_lt hk] at this
      simpa using this
    rw [e _ (by omega), e _ (by omega), flatQ_0, flatQ_1, hx]
    exact ⟨rfl, rfl⟩
theorem RowC.own {w : World} {B g cap : Nat} {l : Qs} (hB : B ≤ g) (hm : cap ≤ maxLen) (h : RowC w g cap l) : OQ 45 w B (.slice (some ⟨g, 0, none⟩) l.length cap) l := by
  obtain ⟨cur, h1, h2, h3, h4⟩ := h
  refine ⟨flatQ_length l, .inr ⟨g, cap, cur, rfl, hB, h1, h2, hm, h3, ?_⟩⟩
  apply List.ext_getElem?
  intro k
  by_cases hk : k < l.length * 2
  · rw [List.getElem?_take_of_lt hk, Array.getElem?_toList]
    have hk2 : k / 2 < l.length := by omega
    obtain ⟨q1, q2⟩ := h4 (k / 2) _ (List.getElem?_eq_getElem hk2)
    rcases Nat.mod_two_eq_zero_or_one k with hm | hm
    · have e : k = k / 2 * 2 := by omega
      rw [e, q1, flatQ_0, List.getElem?_eq_getElem hk2]; rfl
    · have e : k = k / 2 * 2 + 1 := by omega
      rw [e, q2, flatQ_1, List.getElem?_eq_getElem hk2]; rfl
  · rw [List.getElem?_eq_none (by rw [List.length_take]; omega), List.getElem?_eq_none (by rw [flatQ_length]; omega)]
theorem cqbox {w w1 : World} {x y : Value} {t : TypeId} (h : AnyLater (w.alloc (.cells #[x, y] t)) w1) : w1.cell? ⟨w.heap.size, 0, none⟩ = some x ∧ w1.cell? ⟨w.heap.size, 1, none⟩ = some y := by
  have h3 : (w.alloc (.cells #[x, y] t)).heap[w.heap.size]? = some (.cells #[x, y] t) := heap_new rfl
  exact ⟨(h.below.cell (own_lt h3)).trans (by rw [own_row h3]; rfl), (h.below.cell (own_lt h3)).trans (by rw [own_row h3]; rfl)⟩

/-! ### small functions -/
theorem cret_i64 {a b : Int} (h : a = b) : Ending.returned (.int .i64 a) = .returned (.int .i64 b) := by rw [h]
theorem crun_max {P : Program} (w : World) (ts : Array TypeId) (t : TypeId) (p q : Int) : (Builtin.max_ ts t #[.int .i64 p, .int .i64 q]).run P w = .ok (.int .i64 (hiC (p, q))) w := by
  rw [run_max_int2]; unfold hiC; simp only; split <;> split <;> first | rfl | omega | (congr 2; omega)
theorem crun_min {P : Program} (w : World) (ts : Array TypeId) (t : TypeId) (p q : Int) : (Builtin.min_ ts t #[.int .i64 p, .int .i64 q]).run P w = .ok (.int .i64 (loC (p, q))) w := by
  rw [run_min_int2]; unfold loC; simp only; split <;> split <;> first | rfl | omega | (congr 2; omega)
set_option maxRecDepth 100000 in
theorem kends_any (a h : Int) (w : World) : Calls Tryd.prog 26 #[.agg #[.int .i64 a, .int .i64 h]] w fun e w' => e = .returned (.tuple #[.int .i64 (loC (a, h)), .int .i64 (hiC (a, h))]) ∧ AnyLater w w' := by
  have hmx := crun_max (P := Tryd.prog)
  have hmn := crun_min (P := Tryd.prog)
  go_enter Tryd.func26, Tryd.ntmps26
  go_wp2_with fail
  first | refine settle_wp (fun wS => AnyLater w wS ∧ wS.heap[w.heap.size]? = some (.cells #[.int .i64 a, .int .i64 h] 45)) ?_ ?_ | refine settle_calls (fun wS => AnyLater w wS ∧ wS.heap[w.heap.size]? = some (.cells #[.int .i64 a, .int .i64 h] 45)) ?_ ?_
  · refine ⟨?_, ?_⟩
    · repeat' (first | with_reducible assumption | with_reducible exact AnyLater.refl _ | with_reducible apply AnyLater.setCell | with_reducible apply AnyLater.later | with_reducible apply AnyLater.drewN | with_reducible apply AnyLater.drew | with_reducible apply AnyLater.alloc | ((try simp only [World.size_alloc, World.size_setCell, World.size_drew]); (try dsimp only); omega))
    · ((repeat (first | with_reducible assumption | ((with_reducible apply heap_new); (try simp only [World.size_alloc, World.size_setCell, World.size_drew, World.heap_drewN]); done) | ((with_reducible apply heap_new); (try simp only [World.size_alloc, World.size_setCell, World.size_drew, World.heap_drewN]); omega) | (with_reducible refine heap_old (by (try simp only [World.size_alloc, World.size_setCell, World.size_drew, World.heap_drewN]); omega) ?_) | (with_reducible refine heap_drew ?_) | (with_reducible refine heap_far (by omega) ?_) | (with_reducible apply heap_at))); all_goals rfl)
  rintro w1 ⟨b_w1, s0_w1⟩
  have a_w1 := b_w1
  have r0_w1 := own_row s0_w1
  have f0_w1 := own_free s0_w1
  have l0_w1 := own_lt s0_w1
  have z_w1 := b_w1.below.size
  apply wp_region_mem (12) [] (by kernel_rfl) (by kernel_rfl) (by simp)
  case hstab =>
    intro e he v x y hxy hv
    simp only [List.mem_cons, List.not_mem_nil, or_false] at he
  case hlex =>
    intro U
    have q0 := fun (v : Later (later U)) => own_row (any_own ⟨v, rfl⟩ (any_own ⟨U, rfl⟩ s0_w1))
    simp only [absFrom, absOp, idx, List.map_cons, List.map_nil, List.contains_cons, List.contains_nil, Nat.reduceBEq, Bool.or_false, Bool.false_or, Bool.true_or, Bool.or_true, Bool.false_eq_true, Nat.reduceLeDiff, Nat.reduceAdd, if_false, if_true]
    repeat (go_big_quiet_step (first | fail))
    exact wpQuiet_nil rfl
  case hown =>
    intro e he o ho
    simp only [List.mem_cons, List.not_mem_nil, or_false] at he
  case htail =>
    intro g u hst hne
    have b_w2 : AnyLater w1 (later u) := ⟨u, rfl⟩
    generalize later u = w2 at *
    clear u
    clear hst hne
    simp only [fillAll, Act.put, List.setIfInBounds_toArray, List.set_cons_zero, List.set_cons_succ, List.drop_succ_cons, List.drop_zero]
    have z_w2 := b_w2.below.size
    have a_w2 := a_w1.trans b_w2
    have s0_w2 := any_own b_w2 s0_w1
    have r0_w2 := own_row s0_w2
    have f0_w2 := own_free s0_w2
    have l0_w2 := own_lt s0_w2
    (try clear r0_w1); (try clear f0_w1)
    go_wp2_with fail
    refine bodyPost_ret (v := .tuple #[.int .i64 (loC (a, h)), .int .i64 (hiC (a, h))]) (by simp [results, Tryd.results26, go_sem]) rfl ⟨rfl, ?_⟩
    repeat' (first | with_reducible assumption | with_reducible exact AnyLater.refl _ | with_reducible apply AnyLater.setCell | with_reducible apply AnyLater.later | with_reducible apply AnyLater.drewN | with_reducible apply AnyLater.drew | with_reducible apply AnyLater.alloc | ((try simp only [World.size_alloc, World.size_setCell, World.size_drew]); (try dsimp only); omega))
set_option maxRecDepth 100000 in
theorem chooses_any (a h : Int) (w : World) (c : Bool) (hc : (!decide (a = h)) = c) : Calls Tryd.prog 51 #[.agg #[.int .i64 a, .int .i64 h]] w fun e w' => e = .returned (.bool c) ∧ AnyLater w w' := by
  subst hc
  have Q : Hid ((a != h) = !decide (a = h)) := Lib.hid (by by_cases e : a = h <;> simp [e])
  go_enter Tryd.func51, Tryd.ntmps51
  go_wp2_with fail
  go_ret
  exact ⟨ret_bool Q.out, by repeat' (first | with_reducible assumption | with_reducible exact AnyLater.refl _ | with_reducible apply AnyLater.setCell | with_reducible apply AnyLater.later | with_reducible apply AnyLater.drewN | with_reducible apply AnyLater.drew | with_reducible apply AnyLater.alloc | ((try simp only [World.size_alloc, World.size_setCell, World.size_drew]); (try dsimp only); omega))⟩
/-- the order, as a number -/
def cmpE (x y : Int) : Int := if x < y then -1 else if y < x then 1 else 0
def cmpC (a b : Ca) : Int := if cmpE (loC a) (loC b) = 0 then cmpE (hiC a) (hiC b) else cmpE (loC a) (loC b)
theorem cmpC_lt (a b : Ca) : cmpC a b < 0 ↔ leC b a = false := by
  rw [leC_not]
  unfold cmpC cmpE
  by_cases h1 : loC a < loC b
  · rw [if_pos h1]; simp; omega
  · rw [if_neg h1]
    by_cases h2 : loC b < loC a
    · rw [if_pos h2]; simp; omega
    · rw [if_neg h2, if_pos rfl]
      by_cases h3 : hiC a < hiC b
      · rw [if_pos h3]; simp; omega
      · rw [if_neg h3]
        by_cases h4 : hiC b < hiC a
        · rw [if_pos h4]; simp; omega
        · rw [if_neg h4]; simp; omega
theorem kisNaN_any (x : Int) (w : World) : Calls Tryd.prog 66 #[.int .i64 x] w fun e w' => e = .returned (.bool false) ∧ w = w' := by
  go_enter Tryd.func66, Tryd.ntmps66
  go_wp2
  go_ret
  exact ⟨rfl, rfl⟩
theorem kcompare_any (x y : Int) (w : World) (c : Int) (hc : cmpE x y = c) : Calls Tryd.prog 50 #[.int .i64 x, .int .i64 y] w fun e w' => e = .returned (.int .i64 c) ∧ w = w' := by
  subst hc
  have HN := Lib.hid kisNaN_any
  by_cases h : x < y
  · have Q : Hid (-1 = cmpE x y) := Lib.hid (by unfold cmpE; rw [if_pos h])
    go_enter Tryd.func50, Tryd.ntmps50
    go_wp2_with (go_at_call 66; refine (HN.out _ _).mono ?_; rintro e w' ⟨rfl, rfl⟩)
    go_ret
    exact ⟨cret_i64 Q.out, rfl⟩
  · by_cases h2 : y < x
    · have Q : Hid (1 = cmpE x y) := Lib.hid (by unfold cmpE; rw [if_neg h, if_pos h2])
      go_enter Tryd.func50, Tryd.ntmps50
      go_wp2_with (go_at_call 66; refine (HN.out _ _).mono ?_; rintro e w' ⟨rfl, rfl⟩)
      go_ret
      exact ⟨cret_i64 Q.out, rfl⟩
    · have Q : Hid (0 = cmpE x y) := Lib.hid (by unfold cmpE; rw [if_neg h, if_neg h2])
      go_enter Tryd.func50, Tryd.ntmps50
      go_wp2_with (go_at_call 66; refine (HN.out _ _).mono ?_; rintro e w' ⟨rfl, rfl⟩)
      go_ret
      exact ⟨cret_i64 Q.out, rfl⟩
/-- cmp.Or of two numbers -/
theorem or_two (g : Nat) (x y : Int) (w : World) (c : Int) (hc : (if x = 0 then y else x) = c) (h0 : w.cell? ⟨g, 0, none⟩ = some (.int .i64 x)) (h1 : w.cell? ⟨g, 1, none⟩ = some (.int .i64 y)) :
    Calls Tryd.prog 49 #[.slice (some ⟨g, 0, none⟩) 2 2] w fun e w' => e = .returned (.int .i64 c) ∧ w = w' := by
  subst hc
  by_cases h : x = 0
  · have d : (x != 0) = false := by simp [h]
    by_cases h2 : y = 0
    · have d2 : (y != 0) = false := by simp [h2]
      go_enter Tryd.func49, Tryd.ntmps49
      go_wp2_with fail
      refine wp_loop_rounds 3 ?_
      rw [rounds_succ]
      go_wp2_with fail
      rw [rounds_succ]
      go_wp2_with fail
      rw [rounds_succ]
      go_wp2_with fail
      go_ret
      exact ⟨rfl, rfl⟩
    · have d2 : (y != 0) = true := by simp [h2]
      go_enter Tryd.func49, Tryd.ntmps49
      go_wp2_with fail
      refine wp_loop_rounds 3 ?_
      rw [rounds_succ]
      go_wp2_with fail
      rw [rounds_succ]
      go_wp2_with fail
      go_ret
      exact ⟨rfl, rfl⟩
  · have d : (x != 0) = true := by simp [h]
    go_enter Tryd.func49, Tryd.ntmps49
    go_wp2_with fail
    refine wp_loop_rounds 3 ?_
    rw [rounds_succ]
    go_wp2_with fail
    go_ret
    exact ⟨rfl, rfl⟩
set_option maxRecDepth 100000 in
theorem byEnds_any (a h b k : Int) (w : World) (c : Int) (hc : cmpC (a, h) (b, k) = c) : Calls Tryd.prog 36 #[.agg #[.int .i64 a, .int .i64 h], .agg #[.int .i64 b, .int .i64 k]] w fun e w' => e = .returned (.int .i64 c) ∧ AnyLater w w' := by
  have HE := Lib.hid (kends_any a h)
  have HF := Lib.hid (kends_any b k)
  obtain ⟨x, hx⟩ : ∃ x, cmpE (loC (a, h)) (loC (b, k)) = x := ⟨_, rfl⟩
  obtain ⟨y, hy⟩ : ∃ y, cmpE (hiC (a, h)) (hiC (b, k)) = y := ⟨_, rfl⟩
  have hxy : (if x = 0 then y else x) = c := by rw [← hc, ← hx, ← hy]; rfl
  have HX := Lib.hid (fun w => kcompare_any _ _ w x hx)
  have HY := Lib.hid (fun w => kcompare_any _ _ w y hy)
  have HO := Lib.hid (fun g w => or_two g x y w c hxy)
  clear hx hy hxy hc
  generalize loC (a, h) = l1 at *
  generalize hiC (a, h) = h1 at *
  generalize loC (b, k) = l2 at *
  generalize hiC (b, k) = h2 at *
  go_enter Tryd.func36, Tryd.ntmps36
  go_wp2_with fail
  first | refine settle_wp (fun wS => AnyLater w wS ∧ wS.heap[w.heap.size]? = some (.cells #[.int .i64 a, .int .i64 h] 45) ∧ wS.heap[w.heap.size + 1]? = some (.cells #[.int .i64 b, .int .i64 k] 45)) ?_ ?_ | refine settle_calls (fun wS => AnyLater w wS ∧ wS.heap[w.heap.size]? = some (.cells #[.int .i64 a, .int .i64 h] 45) ∧ wS.heap[w.heap.size + 1]? = some (.cells #[.int .i64 b, .int .i64 k] 45)) ?_ ?_
  · refine ⟨?_, ?_, ?_⟩
    · repeat' (first | with_reducible assumption | with_reducible exact AnyLater.refl _ | with_reducible apply AnyLater.setCell | with_reducible apply AnyLater.later | with_reducible apply AnyLater.drewN | with_reducible apply AnyLater.drew | with_reducible apply AnyLater.alloc | ((try simp only [World.size_alloc, World.size_setCell, World.size_drew]); (try dsimp only); omega))
    · ((repeat (first | with_reducible assumption | ((with_reducible apply heap_new); (try simp only [World.size_alloc, World.size_setCell, World.size_drew, World.heap_drewN]); done) | ((with_reducible apply heap_new); (try simp only [World.size_alloc, World.size_setCell, World.size_drew, World.heap_drewN]); omega) | (with_reducible refine heap_old (by (try simp only [World.size_alloc, World.size_setCell, World.size_drew, World.heap_drewN]); omega) ?_) | (with_reducible refine heap_drew ?_) | (with_reducible refine heap_far (by omega) ?_) | (with_reducible apply heap_at))); all_goals rfl)
    · ((repeat (first | with_reducible assumption | ((with_reducible apply heap_new); (try simp only [World.size_alloc, World.size_setCell, World.size_drew, World.heap_drewN]); done) | ((with_reducible apply heap_new); (try simp only [World.size_alloc, World.size_setCell, World.size_drew, World.heap_drewN]); omega) | (with_reducible refine heap_old (by (try simp only [World.size_alloc, World.size_setCell, World.size_drew, World.heap_drewN]); omega) ?_) | (with_reducible refine heap_drew ?_) | (with_reducible refine heap_far (by omega) ?_) | (with_reducible apply heap_at))); all_goals rfl)
  rintro w1 ⟨b_w1, s0_w1, s1_w1⟩
  have a_w1 := b_w1
  have r0_w1 := own_row s0_w1
  have f0_w1 := own_free s0_w1
  have l0_w1 := own_lt s0_w1
  have r1_w1 := own_row s1_w1
  have f1_w1 := own_free s1_w1
  have l1_w1 := own_lt s1_w1
  have z_w1 := b_w1.below.size
  go_wp2_with fail
  refine (HE.out _).mono ?_
  rintro e w2 ⟨rfl, b_w2⟩
  have z_w2 := b_w2.below.size
  have a_w2 := a_w1.trans b_w2
  have s0_w2 := any_own b_w2 s0_w1
  have s1_w2 := any_own b_w2 s1_w1
  have r0_w2 := own_row s0_w2
  have f0_w2 := own_free s0_w2
  have l0_w2 := own_lt s0_w2
  have r1_w2 := own_row s1_w2
  have f1_w2 := own_free s1_w2
  have l1_w2 := own_lt s1_w2
  (try clear r0_w1); (try clear f0_w1)
  (try clear r1_w1); (try clear f1_w1)
  go_wp2_with fail
  refine (HF.out _).mono ?_
  rintro e w3 ⟨rfl, b_w3⟩
  have z_w3 := b_w3.below.size
  have a_w3 := a_w2.trans b_w3
  have s0_w3 := any_own b_w3 s0_w2
  have s1_w3 := any_own b_w3 s1_w2
  have r0_w3 := own_row s0_w3
  have f0_w3 := own_free s0_w3
  have l0_w3 := own_lt s0_w3
  have r1_w3 := own_row s1_w3
  have f1_w3 := own_free s1_w3
  have l1_w3 := own_lt s1_w3
  (try clear r0_w2); (try clear f0_w2)
  (try clear r1_w2); (try clear f1_w2)
  go_wp2_with fail
  refine (HX.out _).mono ?_
  rintro e w' ⟨rfl, rfl⟩
  go_wp2_with fail
  refine (HY.out _).mono ?_
  rintro e w' ⟨rfl, rfl⟩
  go_wp2_with fail
  have r := own_row (heap_new (w := w3) (o := .cells #[.int .i64 x, .int .i64 y] 60) rfl)
  refine (HO.out _ _ ?_ ?_).mono ?_
  · simp [go_sem]
  · simp [go_sem]
  rintro e w' ⟨rfl, rfl⟩
  go_wp2_with fail
  go_ret
  exact ⟨rfl, by repeat' (first | with_reducible assumption | with_reducible exact AnyLater.refl _ | with_reducible apply AnyLater.setCell | with_reducible apply AnyLater.later | with_reducible apply AnyLater.drewN | with_reducible apply AnyLater.drew | with_reducible apply AnyLater.alloc | ((try simp only [World.size_alloc, World.size_setCell, World.size_drew]); (try dsimp only); omega))⟩
end Go.Proofs.YtkobnijjahpifaaDoor
