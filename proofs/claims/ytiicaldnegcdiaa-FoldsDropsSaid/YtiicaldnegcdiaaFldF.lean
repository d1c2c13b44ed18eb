/- folds: the document's Fair, Good, Add by contract. -/
import Derived.Test.YtiicaldnegcdiaaFldC
import Derived.Test.YtiicaldnegcdiaaFree
import Derived.BigQuiet
namespace Go.Proofs.Ytiicaldnegcdiaa
set_option linter.unusedSimpArgs false
set_option linter.unusedVariables false
set_option linter.unusedSectionVars false
open Go.RowKit

theorem xfair_any (f t n : Int) (c : Bool) (w : World) (hc : fairZ n (f, t) = c) : Calls Try.prog 96 #[.agg #[.int .i64 f, .int .i64 t], .int .i64 n] w fun e w' => e = .returned (.bool c) ∧ AnyLater w w' := by
  unfold fairZ at hc
  have HO := Lib.hid hc
  clear hc
  have HA := Lib.hid ((AnyLater.refl w).alloc (.cells #[.int .i64 f, .int .i64 t] 75))
  by_cases h1 : 0 ≤ f
  · by_cases h2 : f < t
    · by_cases h3 : t ≤ n
      · have HB : Hid (true = c) := Lib.hid (by rw [← HO.out]; exact (decide_eq_true ⟨h1, h2, h3⟩).symm)
        go_enter Try.func96, Try.ntmps96
        go_wp2_with fail
        go_ret
        exact ⟨ret_bool HB.out, HA.out⟩
      · have HB : Hid (false = c) := Lib.hid (by rw [← HO.out]; exact (decide_eq_false (fun h => h3 h.2.2)).symm)
        have d3 : decide (t ≤ n) = false := decide_eq_false h3
        go_enter Try.func96, Try.ntmps96
        go_wp2_with fail
        go_ret
        exact ⟨ret_bool HB.out, HA.out⟩
    · have HB : Hid (false = c) := Lib.hid (by rw [← HO.out]; exact (decide_eq_false (fun h => h2 h.2.1)).symm)
      have d2 : decide (f < t) = false := decide_eq_false h2
      go_enter Try.func96, Try.ntmps96
      go_wp2_with fail
      go_ret
      exact ⟨ret_bool HB.out, HA.out⟩
  · have HB : Hid (false = c) := Lib.hid (by rw [← HO.out]; exact (decide_eq_false (fun h => h1 h.1)).symm)
    have d1 : decide (0 ≤ f) = false := decide_eq_false h1
    go_enter Try.func96, Try.ntmps96
    go_wp2_with fail
    go_ret
    exact ⟨ret_bool HB.out, HA.out⟩

/-! ### Good -/
theorem goodZ_first {n : Int} {l : Qs} (h : 0 < l.length) : goodZ n 0 (l.take 1) = fairZ n l[0] := by
  rw [List.take_succ_eq_append_getElem h, List.take_zero, List.nil_append, goodZ_one]
theorem goodZ_next {n : Int} {l : Qs} {j : Nat} (h : j + 1 < l.length) (hg : goodZ n 0 (l.take (j + 1)) = true) : goodZ n 0 (l.take (j + 1 + 1)) = (fairZ n l[j + 1] && decide (l[j].2 ≤ l[j + 1].1)) := by
  rw [goodZ_take h, hg, Bool.true_and, endZ_take (by omega)]
  have h0 : 0 ≤ l[j].2 := by
    have := goodZ_mem (Int.le_refl 0) hg l[j] (by rw [List.mem_take_iff_getElem]; exact ⟨j, by omega, rfl⟩)
    omega
  unfold fairZ
  rw [Bool.eq_iff_iff, Bool.and_eq_true, decide_eq_true_eq, decide_eq_true_eq, decide_eq_true_eq]
  omega
set_option maxRecDepth 100000 in
set_option maxHeartbeats 1600000 in
theorem xfgood_any (v : Value) (l : Qs) (n : Int) (c : Bool) (w : World) (hc : goodZ n 0 l = c) (hv : QR w v l) (hl : l.length ≤ 60000) : Calls Try.prog 58 #[v, .int .i64 n] w fun e w' => e = .returned (.bool c) ∧ AnyLater w w' := by
  obtain ⟨A, cap, rfl, h2, h3⟩ := hv
  have HCC : Hid (∀ (j : Nat) (h : j < l.length), ∃ b off, A = some ⟨b, off, none⟩ ∧ b < w.heap.size ∧ w.cell? ⟨b, off + j * 2, none⟩ = some (.int .i64 l[j].1) ∧ w.cell? ⟨b, off + j * 2 + 1, none⟩ = some (.int .i64 l[j].2)) := Lib.hid (fun j hj => by
    obtain ⟨b, off, e, hb, hc⟩ := h3 (by omega)
    exact ⟨b, off, e, hb, hc j hj⟩)
  have HK := Lib.hid hc
  obtain ⟨m, hm⟩ : ∃ m, l.length = m := ⟨_, rfl⟩
  have HN := Lib.hid hm
  rw [hm] at h2 hl ⊢
  clear h3 hc hm
  go_enter Try.func58, Try.ntmps58
  go_wp2_with fail
  go_loopg [5] m (fun k i wr => ∃ j : Nat, k = m - j ∧ j ≤ m ∧ i = .int .i64 (j : Int) ∧ AnyLater w wr ∧ goodZ n 0 (l.take j) = true)
  case atStart => exact ⟨0, by omega, by omega, rfl, AnyLater.refl _, by rw [List.take_zero]; rfl⟩
  case round =>
    obtain ⟨j, hk, hj, rfl, a_wr, hg⟩ := hrel
    have HG := Lib.hid hg
    clear hg
    by_cases hlt : j < m
    · have lj : j < l.length := by rw [HN.out]; exact hlt
      have i0 : (j : Int) < (m : Int) := by omega
      obtain ⟨b, off, rfl, hb, k0, k1⟩ := HCC.out j lj
      have c0 : wr.cell? ⟨b, off + j * 2, none⟩ = some (.int .i64 l[j].1) := (a_wr.below.cell hb).trans k0
      have c1 : wr.cell? ⟨b, off + j * 2 + 1, none⟩ = some (.int .i64 l[j].2) := (a_wr.below.cell hb).trans k1
      have l1 : b < wr.heap.size := Nat.lt_of_lt_of_le hb a_wr.below.size
      have HF : Hid (goodZ n 0 (l.take (j + 1)) = false → false = c) := Lib.hid (fun h => (goodZ_false lj h).symm.trans HK.out)
      clear k0 k1
      cases j with
      | zero =>
        have HT := Lib.hid (goodZ_first (n := n) lj)
        generalize l[0] = x at *
        obtain ⟨f, t⟩ := x
        simp only [Nat.zero_mul, Nat.add_zero, Nat.zero_add] at c0 c1 HT HF hk ⊢
        cases hfr : fairZ n (f, t) with
        | false =>
          have HX := Lib.hid (fun w => xfair_any f t n false w hfr)
          have HB := Lib.hid (HF.out (HT.out.trans hfr))
          clear hfr
          go_wp2_with fail
          apply wp_region_mem (25) [] (by kernel_rfl) (by kernel_rfl) (by simp)
          case hstab =>
            intro e he v x y hxy hv
            simp only [List.mem_cons, List.not_mem_nil, or_false] at he
          case hlex =>
            intro U
            have q_c0 := fun (v : Later (later U)) => cell_on (AnyLater.trans ⟨U, rfl⟩ ⟨v, rfl⟩) c0
            have q_c1 := fun (v : Later (later U)) => cell_on (AnyLater.trans ⟨U, rfl⟩ ⟨v, rfl⟩) c1
            simp only [absFrom, absOp, idx, List.map_cons, List.map_nil, List.contains_cons, List.contains_nil, Nat.reduceBEq, Bool.or_false, Bool.false_or, Bool.true_or, Bool.or_true, Bool.false_eq_true, Nat.reduceLeDiff, Nat.reduceAdd, if_false, if_true]
            repeat (go_big_quiet_step ((go_at_call 96; exact in_later (HX.out _))))
            exact wpQuiet_nil rfl
          case hown =>
            intro e he o ho
            simp only [List.mem_cons, List.not_mem_nil, or_false] at he
          case htail =>
            intro g u hst hne
            have b_w5 : AnyLater wr (later u) := ⟨u, rfl⟩
            generalize later u = w5 at *
            clear u
            clear hst hne
            simp only [fillAll, Act.put, List.setIfInBounds_toArray, List.set_cons_zero, List.set_cons_succ, List.drop_succ_cons, List.drop_zero]
            have z_w5 := b_w5.below.size
            have a_w5 := a_wr.trans b_w5
            have c0_w5 := cell_on b_w5 c0
            have c1_w5 := cell_on b_w5 c1
            go_wp2_with fail
            go_ret
            exact ⟨ret_bool HB.out, a_w5⟩
        | true =>
          have HX := Lib.hid (fun w => xfair_any f t n true w hfr)
          have HB := Lib.hid (HT.out.trans hfr)
          clear hfr
          go_wp2_with fail
          apply wp_region_mem (25) [] (by kernel_rfl) (by kernel_rfl) (by simp)
          case hstab =>
            intro e he v x y hxy hv
            simp only [List.mem_cons, List.not_mem_nil, or_false] at he
          case hlex =>
            intro U
            have q_c0 := fun (v : Later (later U)) => cell_on (AnyLater.trans ⟨U, rfl⟩ ⟨v, rfl⟩) c0
            have q_c1 := fun (v : Later (later U)) => cell_on (AnyLater.trans ⟨U, rfl⟩ ⟨v, rfl⟩) c1
            simp only [absFrom, absOp, idx, List.map_cons, List.map_nil, List.contains_cons, List.contains_nil, Nat.reduceBEq, Bool.or_false, Bool.false_or, Bool.true_or, Bool.or_true, Bool.false_eq_true, Nat.reduceLeDiff, Nat.reduceAdd, if_false, if_true]
            repeat (go_big_quiet_step ((go_at_call 96; exact in_later (HX.out _))))
            exact wpQuiet_nil rfl
          case hown =>
            intro e he o ho
            simp only [List.mem_cons, List.not_mem_nil, or_false] at he
          case htail =>
            intro g u hst hne
            have b_w5 : AnyLater wr (later u) := ⟨u, rfl⟩
            generalize later u = w5 at *
            clear u
            clear hst hne
            simp only [fillAll, Act.put, List.setIfInBounds_toArray, List.set_cons_zero, List.set_cons_succ, List.drop_succ_cons, List.drop_zero]
            have z_w5 := b_w5.below.size
            have a_w5 := a_wr.trans b_w5
            have c0_w5 := cell_on b_w5 c0
            have c1_w5 := cell_on b_w5 c1
            go_wp2_with fail
            go_roundg (m - 1)
            case measure => omega
            case rel => exact ⟨1, rfl, by omega, by go_num, a_w5, HB.out⟩
      | succ i =>
        have HT := Lib.hid (goodZ_next (n := n) lj HG.out)
        obtain ⟨b', off', hA, hb', k0', k1'⟩ := HCC.out i (by rw [HN.out]; omega)
        cases hA
        have e1 : wr.cell? ⟨b, off + i * 2 + 1, none⟩ = some (.int .i64 (l[i]'(by rw [HN.out]; omega)).2) := (a_wr.below.cell hb).trans k1'
        have i1 : 0 < ((i + 1 : Nat) : Int) := by omega
        have i2 : ((i + 1 : Nat) : Int) - 1 = (i : Int) := by omega
        have i3 : (i : Int) < (m : Int) := by omega
        clear k0' k1' hb'
        generalize l[i + 1] = x at *
        generalize (l[i]'_) = y at *
        obtain ⟨f, t⟩ := x
        obtain ⟨f2, t2⟩ := y
        simp only at c0 c1 e1
        cases hfr : fairZ n (f, t) with
        | false =>
          have HX := Lib.hid (fun w => xfair_any f t n false w hfr)
          have HB := Lib.hid (HF.out (by rw [HT.out, hfr]; rfl))
          clear hfr
          go_wp2_with fail
          apply wp_region_mem (25) [] (by kernel_rfl) (by kernel_rfl) (by simp)
          case hstab =>
            intro e he v x y hxy hv
            simp only [List.mem_cons, List.not_mem_nil, or_false] at he
          case hlex =>
            intro U
            have q_c0 := fun (v : Later (later U)) => cell_on (AnyLater.trans ⟨U, rfl⟩ ⟨v, rfl⟩) c0
            have q_c1 := fun (v : Later (later U)) => cell_on (AnyLater.trans ⟨U, rfl⟩ ⟨v, rfl⟩) c1
            have q_e1 := fun (v : Later (later U)) => cell_on (AnyLater.trans ⟨U, rfl⟩ ⟨v, rfl⟩) e1
            simp only [absFrom, absOp, idx, List.map_cons, List.map_nil, List.contains_cons, List.contains_nil, Nat.reduceBEq, Bool.or_false, Bool.false_or, Bool.true_or, Bool.or_true, Bool.false_eq_true, Nat.reduceLeDiff, Nat.reduceAdd, if_false, if_true]
            repeat (go_big_quiet_step ((go_at_call 96; exact in_later (HX.out _))))
            exact wpQuiet_nil rfl
          case hown =>
            intro e he o ho
            simp only [List.mem_cons, List.not_mem_nil, or_false] at he
          case htail =>
            intro g u hst hne
            have b_w5 : AnyLater wr (later u) := ⟨u, rfl⟩
            generalize later u = w5 at *
            clear u
            clear hst hne
            simp only [fillAll, Act.put, List.setIfInBounds_toArray, List.set_cons_zero, List.set_cons_succ, List.drop_succ_cons, List.drop_zero]
            have z_w5 := b_w5.below.size
            have a_w5 := a_wr.trans b_w5
            have c0_w5 := cell_on b_w5 c0
            have c1_w5 := cell_on b_w5 c1
            have e1_w5 := cell_on b_w5 e1
            go_wp2_with fail
            go_ret
            exact ⟨ret_bool HB.out, a_w5⟩
        | true =>
          have HX := Lib.hid (fun w => xfair_any f t n true w hfr)
          by_cases h4 : f < t2
          · have HB := Lib.hid (HF.out (by rw [HT.out, hfr, Bool.true_and]; exact decide_eq_false (by simp only; omega)))
            clear hfr
            go_wp2_with fail
            apply wp_region_mem (25) [] (by kernel_rfl) (by kernel_rfl) (by simp)
            case hstab =>
              intro e he v x y hxy hv
              simp only [List.mem_cons, List.not_mem_nil, or_false] at he
            case hlex =>
              intro U
              have q_c0 := fun (v : Later (later U)) => cell_on (AnyLater.trans ⟨U, rfl⟩ ⟨v, rfl⟩) c0
              have q_c1 := fun (v : Later (later U)) => cell_on (AnyLater.trans ⟨U, rfl⟩ ⟨v, rfl⟩) c1
              have q_e1 := fun (v : Later (later U)) => cell_on (AnyLater.trans ⟨U, rfl⟩ ⟨v, rfl⟩) e1
              simp only [absFrom, absOp, idx, List.map_cons, List.map_nil, List.contains_cons, List.contains_nil, Nat.reduceBEq, Bool.or_false, Bool.false_or, Bool.true_or, Bool.or_true, Bool.false_eq_true, Nat.reduceLeDiff, Nat.reduceAdd, if_false, if_true]
              repeat (go_big_quiet_step ((go_at_call 96; exact in_later (HX.out _))))
              exact wpQuiet_nil rfl
            case hown =>
              intro e he o ho
              simp only [List.mem_cons, List.not_mem_nil, or_false] at he
            case htail =>
              intro g u hst hne
              have b_w5 : AnyLater wr (later u) := ⟨u, rfl⟩
              generalize later u = w5 at *
              clear u
              clear hst hne
              simp only [fillAll, Act.put, List.setIfInBounds_toArray, List.set_cons_zero, List.set_cons_succ, List.drop_succ_cons, List.drop_zero]
              have z_w5 := b_w5.below.size
              have a_w5 := a_wr.trans b_w5
              have c0_w5 := cell_on b_w5 c0
              have c1_w5 := cell_on b_w5 c1
              have e1_w5 := cell_on b_w5 e1
              go_wp2_with fail
              go_ret
              exact ⟨ret_bool HB.out, a_w5⟩
          · have d4 : decide (f < t2) = false := decide_eq_false h4
            have HB : Hid (goodZ n 0 (l.take (i + 1 + 1)) = true) := Lib.hid (by rw [HT.out, hfr, Bool.true_and]; exact decide_eq_true (by simp only; omega))
            clear hfr
            go_wp2_with fail
            apply wp_region_mem (25) [] (by kernel_rfl) (by kernel_rfl) (by simp)
            case hstab =>
              intro e he v x y hxy hv
              simp only [List.mem_cons, List.not_mem_nil, or_false] at he
            case hlex =>
              intro U
              have q_c0 := fun (v : Later (later U)) => cell_on (AnyLater.trans ⟨U, rfl⟩ ⟨v, rfl⟩) c0
              have q_c1 := fun (v : Later (later U)) => cell_on (AnyLater.trans ⟨U, rfl⟩ ⟨v, rfl⟩) c1
              have q_e1 := fun (v : Later (later U)) => cell_on (AnyLater.trans ⟨U, rfl⟩ ⟨v, rfl⟩) e1
              simp only [absFrom, absOp, idx, List.map_cons, List.map_nil, List.contains_cons, List.contains_nil, Nat.reduceBEq, Bool.or_false, Bool.false_or, Bool.true_or, Bool.or_true, Bool.false_eq_true, Nat.reduceLeDiff, Nat.reduceAdd, if_false, if_true]
              repeat (go_big_quiet_step ((go_at_call 96; exact in_later (HX.out _))))
              exact wpQuiet_nil rfl
            case hown =>
              intro e he o ho
              simp only [List.mem_cons, List.not_mem_nil, or_false] at he
            case htail =>
              intro g u hst hne
              have b_w5 : AnyLater wr (later u) := ⟨u, rfl⟩
              generalize later u = w5 at *
              clear u
              clear hst hne
              simp only [fillAll, Act.put, List.setIfInBounds_toArray, List.set_cons_zero, List.set_cons_succ, List.drop_succ_cons, List.drop_zero]
              have z_w5 := b_w5.below.size
              have a_w5 := a_wr.trans b_w5
              have c0_w5 := cell_on b_w5 c0
              have c1_w5 := cell_on b_w5 c1
              have e1_w5 := cell_on b_w5 e1
              go_wp2_with fail
              go_roundg (m - (i + 1 + 1))
              case measure => omega
              case rel => exact ⟨i + 1 + 1, rfl, hlt, by go_num, a_w5, HB.out⟩
    · obtain rfl : j = m := by omega
      have HB : Hid (true = c) := Lib.hid (by
        have := HG.out
        rw [List.take_of_length_le (Nat.le_of_eq HN.out)] at this
        exact this.symm.trans HK.out)
      have d0 : (j : Int) ≤ 65536 := by omega
      have d1 : decide ((j : Int) < (j : Int)) = false := by simp
      go_wp2_with fail
      go_ret
      exact ⟨ret_bool HB.out, a_wr⟩

/-! ### Add -/
set_option maxRecDepth 100000 in
theorem xadd_bad (v : Value) (l : Qs) (f t n : Int) (w : World) (hv : QR w v l) (hl : l.length ≤ 60000) (hg : goodZ n 0 l = false) :
    Calls Try.prog 56 #[v, .agg #[.int .i64 f, .int .i64 t], .int .i64 n] w (AddS l (f, t) n w) := by
  obtain ⟨hc, hL⟩ := addC_bad (s := (f, t)) (l := l) (n := n) (by rw [hg]; simp)
  have HE := Lib.hid (And.intro hc hL)
  have HG := Lib.hid (fun (w' : World) (h : AnyLater w w') => xfgood_any v l n false w' hg (hv.later h) hl)
  obtain ⟨A, cap, rfl, -⟩ := hv.form
  clear hv hc hL hg hl
  generalize l.length = m at *
  go_enter Try.func56, Try.ntmps56
  go_wp2_with fail
  first | refine settle_wp (fun wS => AnyLater w wS ∧ wS.heap[w.heap.size]? = some (.cells #[.int .i64 f, .int .i64 t] 75)) ?_ ?_ | refine settle_calls (fun wS => AnyLater w wS ∧ wS.heap[w.heap.size]? = some (.cells #[.int .i64 f, .int .i64 t] 75)) ?_ ?_
  · refine ⟨?_, ?_⟩
    · repeat' (first | with_reducible assumption | with_reducible exact AnyLater.refl _ | with_reducible apply AnyLater.setCell | with_reducible apply AnyLater.later | with_reducible apply AnyLater.drewN | with_reducible apply AnyLater.drew | with_reducible apply AnyLater.alloc | ((try simp only [World.size_alloc, World.size_setCell, World.size_drew]); (try dsimp only); omega))
    · ((repeat (first | with_reducible assumption | ((with_reducible apply heap_new); (try simp only [World.size_alloc, World.size_setCell, World.size_drew, World.heap_drewN]); done) | ((with_reducible apply heap_new); (try simp only [World.size_alloc, World.size_setCell, World.size_drew, World.heap_drewN]); omega) | (with_reducible refine heap_old (by (try simp only [World.size_alloc, World.size_setCell, World.size_drew, World.heap_drewN]); omega) ?_) | (with_reducible refine heap_drew ?_) | (with_reducible refine heap_far (by omega) ?_) | (with_reducible apply heap_at))); all_goals rfl)
  rintro w1 ⟨b_w1, s0_w1⟩
  have a_w1 := b_w1
  have r0_w1 := own_row s0_w1
  have f0_w1 := own_free s0_w1
  have l0_w1 := own_lt s0_w1
  have z_w1 := b_w1.below.size
  refine (HG.out _ a_w1).mono ?_
  rintro e w2 ⟨rfl, b_w2⟩
  have z_w2 := b_w2.below.size
  have a_w2 := a_w1.trans b_w2
  have s0_w2 := any_own b_w2 s0_w1
  have r0_w2 := own_row s0_w2
  have f0_w2 := own_free s0_w2
  have l0_w2 := own_lt s0_w2
  (try clear r0_w1); (try clear f0_w1)
  go_wp2_with fail
  refine bodyPost_ret (v := .tuple #[.slice (some ⟨w2.heap.size, 0, none⟩) 0 0, .int .i64 1]) (by simp [results, Try.results56, go_sem]) rfl ⟨_, by rw [HE.out.1], a_w2.alloc _, by rw [HE.out.2]; exact QR.void _ _ _⟩
set_option maxRecDepth 100000 in
theorem xadd_unfair (v : Value) (l : Qs) (f t n : Int) (w : World) (hv : QR w v l) (hl : l.length ≤ 60000) (hg : goodZ n 0 l = true) (hf : fairZ n (f, t) = false) :
    Calls Try.prog 56 #[v, .agg #[.int .i64 f, .int .i64 t], .int .i64 n] w (AddS l (f, t) n w) := by
  obtain ⟨hc, hL⟩ := addC_bad (s := (f, t)) (l := l) (n := n) (by rw [hf]; simp)
  have HE := Lib.hid (And.intro hc hL)
  have HG := Lib.hid (fun (w' : World) (h : AnyLater w w') => xfgood_any v l n true w' hg (hv.later h) hl)
  have HF := Lib.hid (fun (w' : World) => xfair_any f t n false w' hf)
  obtain ⟨A, cap, rfl, -⟩ := hv.form
  clear hv hc hL hg hf hl
  generalize l.length = m at *
  go_enter Try.func56, Try.ntmps56
  go_wp2_with fail
  first | refine settle_wp (fun wS => AnyLater w wS ∧ wS.heap[w.heap.size]? = some (.cells #[.int .i64 f, .int .i64 t] 75)) ?_ ?_ | refine settle_calls (fun wS => AnyLater w wS ∧ wS.heap[w.heap.size]? = some (.cells #[.int .i64 f, .int .i64 t] 75)) ?_ ?_
  · refine ⟨?_, ?_⟩
    · repeat' (first | with_reducible assumption | with_reducible exact AnyLater.refl _ | with_reducible apply AnyLater.setCell | with_reducible apply AnyLater.later | with_reducible apply AnyLater.drewN | with_reducible apply AnyLater.drew | with_reducible apply AnyLater.alloc | ((try simp only [World.size_alloc, World.size_setCell, World.size_drew]); (try dsimp only); omega))
    · ((repeat (first | with_reducible assumption | ((with_reducible apply heap_new); (try simp only [World.size_alloc, World.size_setCell, World.size_drew, World.heap_drewN]); done) | ((with_reducible apply heap_new); (try simp only [World.size_alloc, World.size_setCell, World.size_drew, World.heap_drewN]); omega) | (with_reducible refine heap_old (by (try simp only [World.size_alloc, World.size_setCell, World.size_drew, World.heap_drewN]); omega) ?_) | (with_reducible refine heap_drew ?_) | (with_reducible refine heap_far (by omega) ?_) | (with_reducible apply heap_at))); all_goals rfl)
  rintro w1 ⟨b_w1, s0_w1⟩
  have a_w1 := b_w1
  have r0_w1 := own_row s0_w1
  have f0_w1 := own_free s0_w1
  have l0_w1 := own_lt s0_w1
  have z_w1 := b_w1.below.size
  refine (HG.out _ a_w1).mono ?_
  rintro e w2 ⟨rfl, b_w2⟩
  have z_w2 := b_w2.below.size
  have a_w2 := a_w1.trans b_w2
  have s0_w2 := any_own b_w2 s0_w1
  have r0_w2 := own_row s0_w2
  have f0_w2 := own_free s0_w2
  have l0_w2 := own_lt s0_w2
  (try clear r0_w1); (try clear f0_w1)
  go_wp2_with fail
  refine (HF.out _).mono ?_
  rintro e w4 ⟨rfl, b_w4⟩
  have z_w4 := b_w4.below.size
  have a_w4 := a_w2.trans b_w4
  have s0_w4 := any_own b_w4 s0_w2
  have r0_w4 := own_row s0_w4
  have f0_w4 := own_free s0_w4
  have l0_w4 := own_lt s0_w4
  (try clear r0_w2); (try clear f0_w2)
  go_wp2_with fail
  refine bodyPost_ret (v := .tuple #[.slice (some ⟨w4.heap.size, 0, none⟩) 0 0, .int .i64 1]) (by simp [results, Try.results56, go_sem]) rfl ⟨_, by rw [HE.out.1], a_w4.alloc _, by rw [HE.out.2]; exact QR.void _ _ _⟩
set_option maxRecDepth 100000 in
set_option maxHeartbeats 3200000 in
theorem xadd_fair (v : Value) (l : Qs) (f t n : Int) (w : World) (hv : QR w v l) (hl : l.length ≤ 60000) (hg : goodZ n 0 l = true) (hf : fairZ n (f, t) = true) :
    Calls Try.prog 56 #[v, .agg #[.int .i64 f, .int .i64 t], .int .i64 n] w (AddS l (f, t) n w) := by
  have HG := Lib.hid (fun (w' : World) (h : AnyLater w w') => xfgood_any v l n true w' hg (hv.later h) hl)
  have HF := Lib.hid (fun (w' : World) => xfair_any f t n true w' hf)
  have HClash := Lib.hid (fun (h : clashZ (f, t) l = true) => addC_clash ⟨hg, hf⟩ h)
  have HOk := Lib.hid (fun (h : clashZ (f, t) l = false) => addC_ok ⟨hg, hf⟩ h)
  have HLt := Lib.hid (fun i (h : i < l.length) (ha : i < aheadZ (f, t) l) => aheadZ_lt (f, t) l i h ha)
  have HGe : Hid (∀ (i : Nat) (h : i < l.length), aheadZ (f, t) l ≤ i → f < l[i].2) := Lib.hid (fun i h ha => by
    have h1 := aheadZ_at (f, t) l (by omega)
    rcases Nat.lt_or_ge (aheadZ (f, t) l) i with h2 | h2
    · have h3 := List.pairwise_iff_getElem.1 (goodZ_pair (Int.le_refl 0) hg) _ _ (by omega) h h2
      have h4 := goodZ_mem (Int.le_refl 0) hg l[i] (List.getElem_mem h)
      simp only at h1
      omega
    · have h3 : aheadZ (f, t) l = i := by omega
      simp only [h3] at h1
      exact h1)
  have HIn : Hid (∀ (i : Nat) (h : i < l.length), l[i].1 < l[i].2) := Lib.hid (fun i h => (goodZ_mem (Int.le_refl 0) hg l[i] (List.getElem_mem h)).2.1)
  have HI1 := Lib.hid (fun i (h : i < l.length) (ha : i < aheadZ (f, t) l) => insZ_ahead h ha)
  have HI2 := Lib.hid (fun i (h : i < l.length) (ha : i = aheadZ (f, t) l) => insZ_at h ha)
  have HI3 := Lib.hid (fun i (h : i < l.length) (ha : aheadZ (f, t) l < i) => insZ_behind h ha)
  have HI4 := Lib.hid (insZ_end (f, t) l)
  have HI5 := Lib.hid (insZ_len (f, t) l)
  have HI0 := Lib.hid (insZ_zero (f, t) l)
  have hft : f < t := by unfold fairZ at hf; exact (of_decide_eq_true hf).2.1
  have HCt : Hid (∀ (i : Nat) (h : i < l.length), clashZ (f, t) (l.take (i + 1)) = (clashZ (f, t) (l.take i) || decide (l[i].1 < t ∧ f < l[i].2))) := Lib.hid (fun i h => clash_take h)
  have HC1 : Hid (∀ (i : Nat) (h : i < l.length), l[i].1 < t → f < l[i].2 → clashZ (f, t) l = true) := Lib.hid (fun i h h1 h2 => clash_one h ⟨h1, h2⟩)
  have hal := aheadZ_le (f, t) l
  obtain ⟨A, cap, rfl, h2, h3⟩ := hv
  have HCC : Hid (∀ (j : Nat) (h : j < l.length), ∃ b off, A = some ⟨b, off, none⟩ ∧ b < w.heap.size ∧ w.cell? ⟨b, off + j * 2, none⟩ = some (.int .i64 l[j].1) ∧ w.cell? ⟨b, off + j * 2 + 1, none⟩ = some (.int .i64 l[j].2)) := Lib.hid (fun j hj => by
    obtain ⟨b, off, e, hb, hc⟩ := h3 (by omega)
    exact ⟨b, off, e, hb, hc j hj⟩)
  generalize aheadZ (f, t) l = a at *
  obtain ⟨m, hm⟩ : ∃ m, l.length = m := ⟨_, rfl⟩
  have HN := Lib.hid hm
  rw [hm] at h2 hl hal HG HI4 ⊢
  clear h3 hm hg hf
  go_enter Try.func56, Try.ntmps56
  go_wp2_with fail
  first | refine settle_wp (fun wS => AnyLater w wS ∧ wS.heap[w.heap.size]? = some (.cells #[.int .i64 f, .int .i64 t] 75)) ?_ ?_ | refine settle_calls (fun wS => AnyLater w wS ∧ wS.heap[w.heap.size]? = some (.cells #[.int .i64 f, .int .i64 t] 75)) ?_ ?_
  · refine ⟨?_, ?_⟩
    · repeat' (first | with_reducible assumption | with_reducible exact AnyLater.refl _ | with_reducible apply AnyLater.setCell | with_reducible apply AnyLater.later | with_reducible apply AnyLater.drewN | with_reducible apply AnyLater.drew | with_reducible apply AnyLater.alloc | ((try simp only [World.size_alloc, World.size_setCell, World.size_drew]); (try dsimp only); omega))
    · ((repeat (first | with_reducible assumption | ((with_reducible apply heap_new); (try simp only [World.size_alloc, World.size_setCell, World.size_drew, World.heap_drewN]); done) | ((with_reducible apply heap_new); (try simp only [World.size_alloc, World.size_setCell, World.size_drew, World.heap_drewN]); omega) | (with_reducible refine heap_old (by (try simp only [World.size_alloc, World.size_setCell, World.size_drew, World.heap_drewN]); omega) ?_) | (with_reducible refine heap_drew ?_) | (with_reducible refine heap_far (by omega) ?_) | (with_reducible apply heap_at))); all_goals rfl)
  rintro w1 ⟨b_w1, s0_w1⟩
  have a_w1 := b_w1
  have r0_w1 := own_row s0_w1
  have f0_w1 := own_free s0_w1
  have l0_w1 := own_lt s0_w1
  have z_w1 := b_w1.below.size
  refine (HG.out _ a_w1).mono ?_
  rintro e w2 ⟨rfl, b_w2⟩
  have z_w2 := b_w2.below.size
  have a_w2 := a_w1.trans b_w2
  have s0_w2 := any_own b_w2 s0_w1
  have r0_w2 := own_row s0_w2
  have f0_w2 := own_free s0_w2
  have l0_w2 := own_lt s0_w2
  (try clear r0_w1); (try clear f0_w1)
  go_wp2_with fail
  refine (HF.out _).mono ?_
  rintro e w3 ⟨rfl, b_w3⟩
  have z_w3 := b_w3.below.size
  have a_w3 := a_w2.trans b_w3
  have s0_w3 := any_own b_w3 s0_w2
  have r0_w3 := own_row s0_w3
  have f0_w3 := own_free s0_w3
  have l0_w3 := own_lt s0_w3
  (try clear r0_w2); (try clear f0_w2)
  clear HG HF
  go_wp2_with fail
  first | refine settle_wp (fun wS => AnyLater w3 wS ∧ wS.heap[w3.heap.size]? = some (.cells #[] 75 (0, 0))) ?_ ?_ | refine settle_calls (fun wS => AnyLater w3 wS ∧ wS.heap[w3.heap.size]? = some (.cells #[] 75 (0, 0))) ?_ ?_
  · refine ⟨?_, ?_⟩
    · repeat' (first | with_reducible assumption | with_reducible exact AnyLater.refl _ | with_reducible apply AnyLater.setCell | with_reducible apply AnyLater.later | with_reducible apply AnyLater.drewN | with_reducible apply AnyLater.drew | with_reducible apply AnyLater.alloc | ((try simp only [World.size_alloc, World.size_setCell, World.size_drew]); (try dsimp only); omega))
    · ((repeat (first | with_reducible assumption | ((with_reducible apply heap_new); (try simp only [World.size_alloc, World.size_setCell, World.size_drew, World.heap_drewN]); done) | ((with_reducible apply heap_new); (try simp only [World.size_alloc, World.size_setCell, World.size_drew, World.heap_drewN]); omega) | (with_reducible refine heap_old (by (try simp only [World.size_alloc, World.size_setCell, World.size_drew, World.heap_drewN]); omega) ?_) | (with_reducible refine heap_drew ?_) | (with_reducible refine heap_far (by omega) ?_) | (with_reducible apply heap_at))); all_goals rfl)
  rintro w4 ⟨b_w4, s1_w4⟩
  have a_w4 := a_w3.trans b_w4
  have s0_w4 := any_own b_w4 s0_w3
  have r0_w4 := own_row s0_w4
  have f0_w4 := own_free s0_w4
  have l0_w4 := own_lt s0_w4
  (try clear r0_w3); (try clear f0_w3)
  have r1_w4 := own_row s1_w4
  have f1_w4 := own_free s1_w4
  have l1_w4 := own_lt s1_w4
  have z_w4 := b_w4.below.size
  go_loopg [8, 9, 10] m (fun k ov pv iv wr => ∃ j : Nat, k = m - j ∧ j ≤ m ∧ iv = .int .i64 (j : Int) ∧ pv = .bool (decide (a < j)) ∧ clashZ (f, t) (l.take j) = false ∧ AnyLater w3 wr ∧ OQ 75 wr w3.heap.size ov (insZ (f, t) l j))
  case atStart => exact ⟨0, by omega, by omega, rfl, by simp, by rw [List.take_zero]; rfl, b_w4, by rw [HI0.out]; exact OQ.empty (Nat.le_refl _) s1_w4⟩
  case round =>
    obtain ⟨j, hk, hj, rfl, rfl, hcl, b_wr, ho⟩ := hrel
    have HO := Lib.hid ho
    have HA := Lib.hid b_wr
    have HCl := Lib.hid hcl
    have HL5 : Hid ((insZ (f, t) l j).length ≤ 60001) := Lib.hid (by have := HI5.out j; rw [HN.out] at this; omega)
    obtain ⟨A4, cap4, rfl, -⟩ := ho.form
    have a_wr := a_w3.trans b_wr
    have s0_wr := any_own b_wr s0_w3
    have r0_wr := own_row s0_wr
    have l0_wr := own_lt s0_wr
    clear hcl ho
    by_cases hlt : j < m
    · have lj : j < l.length := by rw [HN.out]; exact hlt
      have i0 : (j : Int) < (m : Int) := by omega
      obtain ⟨b, off, rfl, hb, k0, k1⟩ := HCC.out j lj
      have c0 : wr.cell? ⟨b, off + j * 2, none⟩ = some (.int .i64 l[j].1) := (a_wr.below.cell hb).trans k0
      have c1 : wr.cell? ⟨b, off + j * 2 + 1, none⟩ = some (.int .i64 l[j].2) := (a_wr.below.cell hb).trans k1
      have HIn1 := HIn.out j lj
      have HCt1 := Lib.hid (HCt.out j lj)
      have HC11 := Lib.hid (HC1.out j lj)
      clear k0 k1
      by_cases hja : j < a
      · have i1 := HLt.out j lj hja
        have HI := Lib.hid (HI1.out j lj hja)
        generalize l[j] = x at *
        obtain ⟨f2, t2⟩ := x
        simp only at c0 c1 i1 HIn1
        have d1 : f2 < t := by omega
        have d2 : decide (f < t2) = false := decide_eq_false (by omega)
        have d3 : decide (f < f2) = false := decide_eq_false (by omega)
        have d4 : decide (a < j) = false := decide_eq_false (by omega)
        have d5 : decide (a < j + 1) = false := decide_eq_false (by omega)
        have HB : Hid (clashZ (f, t) (l.take (j + 1)) = false) := Lib.hid (by rw [HCt1.out, HCl.out, Bool.false_or]; exact decide_eq_false (by simp only; omega))
        rw [d4]
        go_wp2_with fail
        go_quiet (fail)
        obtain ⟨n1, rfl⟩ : ∃ n1, n1 = nq := ⟨_, rfl⟩
        go_wp2_with fail
        go_quiet (fail)
        obtain ⟨w5, hw5⟩ : ∃ w5, (wr.drewN n1).drewN nq = w5 := ⟨_, rfl⟩
        have b_w5 : AnyLater wr w5 := by rw [← hw5]; exact ((AnyLater.refl wr).drewN _).drewN _
        rw [hw5]
        clear hw5
        obtain ⟨u, w6, q1, q2, q3⟩ := appQ1 pairSpan (f2, t2) (OQ.later b_w5 HO.out) (HA.out.trans b_w5).below.size (Nat.le_trans HL5.out (by decide))
        have K1 := Lib.hid q1
        have K2 := Lib.hid (And.intro (q3 w3 (Nat.le_refl _) (HA.out.trans b_w5)) q2)
        have c0 := cell_on b_w5 c0
        have c1 := cell_on b_w5 c1
        have l5 := b_w5.below.size
        clear q1 q2 q3 b_w5
        generalize (insZ (f, t) l j).length = nl at *
        go_wp2_with (at_builtin; refine Lib.wpList_append_run _ rfl _ _ _ _ rfl _ _ rfl rfl _ _ K1.out ?_)
        go_roundg (m - (j + 1))
        case measure => omega
        case rel => exact ⟨j + 1, rfl, hlt, by go_num, by rw [d5], HB.out, K2.out.1, by rw [HI.out]; exact K2.out.2⟩
      · have i1 := HGe.out j lj (by omega)
        rcases Nat.lt_or_ge a j with hja2 | hja2
        · have HI := Lib.hid (HI3.out j lj hja2)
          generalize l[j] = x at *
          obtain ⟨f2, t2⟩ := x
          simp only at c0 c1 i1 HIn1
          have d4 : decide (a < j) = true := decide_eq_true hja2
          have d5 : decide (a < j + 1) = true := decide_eq_true (by omega)
          rw [d4]
          by_cases h1 : f2 < t
          · have HE := Lib.hid (HClash.out (HC11.out h1 i1))
            go_wp2_with fail
            go_quiet (fail)
            go_wp2_with fail
            refine bodyPost_ret (v := .tuple #[.slice (some ⟨wr.heap.size, 0, none⟩) 0 0, .int .i64 4]) (by simp [results, Try.results56, go_sem]) rfl ⟨_, by rw [HE.out.1], (a_wr.drewN _).alloc _, by rw [HE.out.2]; exact QR.void _ _ _⟩
          · have d1 : decide (f2 < t) = false := decide_eq_false h1
            have HB : Hid (clashZ (f, t) (l.take (j + 1)) = false) := Lib.hid (by rw [HCt1.out, HCl.out, Bool.false_or]; exact decide_eq_false (by simp only; omega))
            go_wp2_with fail
            go_quiet (fail)
            obtain ⟨n1, rfl⟩ : ∃ n1, n1 = nq := ⟨_, rfl⟩
            go_wp2_with fail
            go_quiet (fail)
            obtain ⟨w5, hw5⟩ : ∃ w5, (wr.drewN n1).drewN nq = w5 := ⟨_, rfl⟩
            have b_w5 : AnyLater wr w5 := by rw [← hw5]; exact ((AnyLater.refl wr).drewN _).drewN _
            rw [hw5]
            clear hw5
            obtain ⟨u, w6, q1, q2, q3⟩ := appQ1 pairSpan (f2, t2) (OQ.later b_w5 HO.out) (HA.out.trans b_w5).below.size (Nat.le_trans HL5.out (by decide))
            have K1 := Lib.hid q1
            have K2 := Lib.hid (And.intro (q3 w3 (Nat.le_refl _) (HA.out.trans b_w5)) q2)
            have c0 := cell_on b_w5 c0
            have c1 := cell_on b_w5 c1
            clear q1 q2 q3 b_w5
            generalize (insZ (f, t) l j).length = nl at *
            go_wp2_with (at_builtin; refine Lib.wpList_append_run _ rfl _ _ _ _ rfl _ _ rfl rfl _ _ K1.out ?_)
            go_roundg (m - (j + 1))
            case measure => omega
            case rel => exact ⟨j + 1, rfl, hlt, by go_num, by rw [d5], HB.out, K2.out.1, by rw [HI.out]; exact K2.out.2⟩
        · have HI := Lib.hid (HI2.out j lj (by omega))
          generalize l[j] = x at *
          obtain ⟨f2, t2⟩ := x
          simp only at c0 c1 i1 HIn1
          have d4 : decide (a < j) = false := decide_eq_false (by omega)
          have d5 : decide (a < j + 1) = true := decide_eq_true (by omega)
          rw [d4]
          by_cases h1 : f2 < t
          · have HE := Lib.hid (HClash.out (HC11.out h1 i1))
            go_wp2_with fail
            go_quiet (fail)
            go_wp2_with fail
            refine bodyPost_ret (v := .tuple #[.slice (some ⟨wr.heap.size, 0, none⟩) 0 0, .int .i64 4]) (by simp [results, Try.results56, go_sem]) rfl ⟨_, by rw [HE.out.1], (a_wr.drewN _).alloc _, by rw [HE.out.2]; exact QR.void _ _ _⟩
          · have d1 : decide (f2 < t) = false := decide_eq_false h1
            have d2 : f < f2 := by omega
            have HB : Hid (clashZ (f, t) (l.take (j + 1)) = false) := Lib.hid (by rw [HCt1.out, HCl.out, Bool.false_or]; exact decide_eq_false (by simp only; omega))
            go_wp2_with fail
            go_quiet (fail)
            obtain ⟨n1, rfl⟩ : ∃ n1, n1 = nq := ⟨_, rfl⟩
            go_wp2_with fail
            go_quiet (fail)
            obtain ⟨w5, hw5⟩ : ∃ w5, (wr.drewN n1).drewN nq = w5 := ⟨_, rfl⟩
            have b_w5 : AnyLater wr w5 := by rw [← hw5]; exact ((AnyLater.refl wr).drewN _).drewN _
            rw [hw5]
            clear hw5
            obtain ⟨u, w6, q1, q2, q3⟩ := appQ1 pairSpan (f, t) (OQ.later b_w5 HO.out) (HA.out.trans b_w5).below.size (Nat.le_trans HL5.out (by decide))
            have b_w6 := q3 w3 (Nat.le_refl _) (HA.out.trans b_w5)
            have HM6 : Hid ((insZ (f, t) l j ++ [(f, t)]).length = (insZ (f, t) l j).length + 1) := Lib.hid (by simp)
            obtain ⟨A6, cap6, rfl, -⟩ := OQ.form q2
            obtain ⟨u7, w7, q4, q5, q6⟩ := appQ1 pairSpan (f2, t2) q2 b_w6.below.size (by rw [HM6.out]; exact Nat.le_trans (Nat.succ_le_succ HL5.out) (by decide))
            have K1 := Lib.hid q1
            have K3 := Lib.hid q4
            have K2 := Lib.hid (And.intro (q6 w3 (Nat.le_refl _) b_w6) q5)
            have r0_w5 := own_row (any_own b_w5 s0_wr)
            have l0_w5 := own_lt (any_own b_w5 s0_wr)
            have hb6 : b < w6.heap.size := Nat.lt_of_lt_of_le hb (a_w3.trans b_w6).below.size
            have c0 : w6.cell? ⟨b, off + j * 2, none⟩ = some (.int .i64 f2) := (b_w6.below.cell (Nat.lt_of_lt_of_le hb a_w3.below.size)).trans ((HA.out.below.cell (Nat.lt_of_lt_of_le hb a_w3.below.size)).symm.trans c0)
            have c1 : w6.cell? ⟨b, off + j * 2 + 1, none⟩ = some (.int .i64 t2) := (b_w6.below.cell (Nat.lt_of_lt_of_le hb a_w3.below.size)).trans ((HA.out.below.cell (Nat.lt_of_lt_of_le hb a_w3.below.size)).symm.trans c1)
            clear q1 q2 q3 q4 q5 q6 b_w5
            generalize (insZ (f, t) l j ++ [(f, t)]).length = nl6 at *
            generalize (insZ (f, t) l j).length = nl at *
            go_wp2_with (at_builtin; first | refine Lib.wpList_append_run _ rfl _ _ _ _ rfl _ _ rfl rfl _ _ K1.out ?_ | refine Lib.wpList_append_run _ rfl _ _ _ _ rfl _ _ rfl rfl _ _ K3.out ?_)
            go_roundg (m - (j + 1))
            case measure => omega
            case rel => exact ⟨j + 1, rfl, hlt, by go_num, by rw [d5], HB.out, K2.out.1, by rw [HI.out]; exact K2.out.2⟩
    · obtain rfl : j = m := by omega
      have HE := Lib.hid (HOk.out (by have := HCl.out; rwa [List.take_of_length_le (Nat.le_of_eq HN.out)] at this))
      have i0 : decide ((j : Int) < (j : Int)) = false := by simp
      rcases Nat.lt_or_ge a j with hja2 | hja2
      · have HI : Hid (insZ (f, t) l j = putZ (f, t) l) := Lib.hid (by have := HI4.out; rw [if_neg (by omega)] at this; exact this)
        have d4 : decide (a < j) = true := decide_eq_true hja2
        rw [d4]
        have HL7 := HL5.out
        generalize (insZ (f, t) l j).length = nl at *
        have d6 : decide ((65536 : Int) < (nl : Int)) = false := decide_eq_false (by omega)
        go_wp2_with fail
        refine bodyPost_ret (v := .tuple #[.slice A4 nl cap4, .int .i64 0]) (by simp [results, Try.results56, go_sem]) rfl ⟨_, by rw [HE.out.1], a_wr, by rw [HE.out.2, ← HI.out]; exact OQ.rq HO.out⟩
      · have HI : Hid (insZ (f, t) l j ++ [(f, t)] = putZ (f, t) l) := Lib.hid (by have := HI4.out; rw [if_pos (by omega)] at this; exact this)
        have d4 : decide (a < j) = false := decide_eq_false (by omega)
        rw [d4]
        obtain ⟨u, w6, q1, q2, q3⟩ := appQ1 pairSpan (f, t) HO.out HA.out.below.size (Nat.le_trans HL5.out (by decide))
        have b_w6 := q3 w3 (Nat.le_refl _) HA.out
        obtain ⟨A6, cap6, rfl, -⟩ := OQ.form q2
        have K1 := Lib.hid q1
        have K2 := Lib.hid (And.intro (a_w3.trans b_w6) q2)
        have HL7 : (insZ (f, t) l j ++ [(f, t)]).length ≤ 60002 := by rw [List.length_append]; have := HL5.out; simp; omega
        clear q1 q2 q3 b_w6
        generalize (insZ (f, t) l j ++ [(f, t)]).length = nl6 at *
        generalize (insZ (f, t) l j).length = nl at *
        have d6 : decide ((65536 : Int) < (nl6 : Int)) = false := decide_eq_false (by omega)
        go_wp2_with (at_builtin; refine Lib.wpList_append_run _ rfl _ _ _ _ rfl _ _ rfl rfl _ _ K1.out ?_)
        refine bodyPost_ret (v := .tuple #[.slice A6 nl6 cap6, .int .i64 0]) (by simp [results, Try.results56, go_sem]) rfl ⟨_, by rw [HE.out.1], K2.out.1, by rw [HE.out.2, ← HI.out]; exact OQ.rq K2.out.2⟩
theorem xadd_any (v : Value) (l : Qs) (f t n : Int) (w : World) (hv : QR w v l) (hl : l.length ≤ 60000) :
    Calls Try.prog 56 #[v, .agg #[.int .i64 f, .int .i64 t], .int .i64 n] w (AddS l (f, t) n w) := by
  cases hg : goodZ n 0 l with
  | false => exact xadd_bad v l f t n w hv hl hg
  | true =>
    cases hf : fairZ n (f, t) with
    | false => exact xadd_unfair v l f t n w hv hl hg hf
    | true => exact xadd_fair v l f t n w hv hl hg hf
end Go.Proofs.Ytiicaldnegcdiaa
