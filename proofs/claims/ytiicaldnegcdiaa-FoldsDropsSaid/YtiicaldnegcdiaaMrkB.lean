/- mark: the document's All (what is left of spans) and Same (whether two lists of spans are one) by contract. -/
import Derived.Test.YtiicaldnegcdiaaMrkQ
import Derived.Laws.StructEq
import Derived.Deep.QuietTactic
namespace Go.Proofs.Ytiicaldnegcdiaa
set_option linter.unusedSimpArgs false
set_option linter.unusedVariables false
set_option linter.unusedSectionVars false
open Go.RowKit

set_option maxRecDepth 100000 in
set_option maxHeartbeats 1600000 in
theorem xall_any (v : Value) (l : Qs) (a o i : Int) (M : Qs) (w : World) (hM : spansZ a o i l = M) (hv : QR w v l) (hl : l.length ≤ 100000) : Calls Try.prog 48 #[v, .agg #[.int .i64 a, .int .i64 o, .int .i64 i]] w (RowS w M) := by
  obtain ⟨A, cap, rfl, h2, h3⟩ := hv
  have HCC : Hid (∀ (j : Nat) (h : j < l.length), ∃ b off, A = some ⟨b, off, none⟩ ∧ b < w.heap.size ∧ w.cell? ⟨b, off + j * 2, none⟩ = some (.int .i64 l[j].1) ∧ w.cell? ⟨b, off + j * 2 + 1, none⟩ = some (.int .i64 l[j].2)) := Lib.hid (fun j hj => by
    obtain ⟨b, off, e, hb, hc⟩ := h3 (by omega)
    exact ⟨b, off, e, hb, hc j hj⟩)
  have HT : Hid (∀ (j : Nat) (h : j < l.length), spansZ a o i (l.take (j + 1)) = spansZ a o i (l.take j) ++ (spanZ a o i l[j]).toList) := Lib.hid (fun j h => spansZ_take h)
  have HLe : Hid (∀ j, (spansZ a o i (l.take j)).length ≤ j) := Lib.hid (spansZ_take_le a o i l)
  have HEnd : Hid (spansZ a o i (l.take l.length) = M) := Lib.hid (by rw [List.take_length]; exact hM)
  obtain ⟨n, hn⟩ : ∃ n, l.length = n := ⟨_, rfl⟩
  have HN := Lib.hid hn
  rw [hn] at HEnd h2 hl ⊢
  have HA0 := Lib.hid ((AnyLater.refl w).alloc (.cells #[.int .i64 a, .int .i64 o, .int .i64 i] 71))
  have HE0 : Hid (OQ 75 ((w.alloc (.cells #[.int .i64 a, .int .i64 o, .int .i64 i] 71)).alloc (.cells #[] 75)) (w.heap.size + 1) (.slice (some ⟨w.heap.size + 1, 0, none⟩) 0 0) [] ∧ AnyLater (w.alloc (.cells #[.int .i64 a, .int .i64 o, .int .i64 i] 71)) ((w.alloc (.cells #[.int .i64 a, .int .i64 o, .int .i64 i] 71)).alloc (.cells #[] 75))) :=
    Lib.hid ⟨OQ.empty (Nat.le_refl _) (heap_new (by simp)), (AnyLater.refl _).alloc _⟩
  clear h3 hn
  go_enter Try.func48, Try.ntmps48
  go_wp2_with fail
  go_loopg [5, 6] n (fun kk ov iv wr => ∃ (j : Nat), kk = n - j ∧ j ≤ n ∧ iv = .int .i64 (j : Int) ∧ AnyLater (w.alloc (.cells #[.int .i64 a, .int .i64 o, .int .i64 i] 71)) wr ∧ OQ 75 wr (w.heap.size + 1) ov (spansZ a o i (l.take j)))
  case atStart => exact ⟨0, by omega, by omega, rfl, HE0.out.2, HE0.out.1⟩
  case round =>
    obtain ⟨j, hk, hj, rfl, a_wr, ho⟩ := hrel
    have HO := Lib.hid ho
    have HA := Lib.hid a_wr
    obtain ⟨A4, cap4, rfl, -⟩ := ho.form
    by_cases hlt : j < n
    · have lj : j < l.length := by rw [HN.out]; exact hlt
      have i0 : (j : Int) < (n : Int) := by omega
      obtain ⟨b, off, rfl, hb, k0, k1⟩ := HCC.out j lj
      have c0 : wr.cell? ⟨b, off + j * 2, none⟩ = some (.int .i64 l[j].1) := ((HA0.out.trans a_wr).below.cell hb).trans k0
      have c1 : wr.cell? ⟨b, off + j * 2 + 1, none⟩ = some (.int .i64 l[j].2) := ((HA0.out.trans a_wr).below.cell hb).trans k1
      obtain ⟨d0, d1, d2⟩ := box_three a_wr
      have lw : w.heap.size + 1 ≤ wr.heap.size := by have := a_wr.below.size; rw [World.size_alloc] at this; omega
      have hT := HT.out j lj
      clear k0 k1
      generalize l[j] = x at *
      obtain ⟨f, t⟩ := x
      simp only at c0 c1 hT
      have HLj := HLe.out j
      obtain ⟨x, hx⟩ : ∃ x, rightZ f a o i = x := ⟨_, rfl⟩
      obtain ⟨y, hy⟩ : ∃ y, leftZ t a o i = y := ⟨_, rfl⟩
      have HX := Lib.hid (fun w => xright_any f a o i w x hx)
      have HY := Lib.hid (fun w => xleft_any t a o i w y hy)
      rcases hs : spanZ a o i (f, t) with _ | ⟨x', y'⟩
      · have e3 := spanZ_none hs
        rw [hx, hy] at e3
        rw [hs] at hT
        have HT2 := Lib.hid (hT.trans (List.append_nil _))
        have d : decide (x < y) = false := decide_eq_false e3
        clear hs hT ho hx hy
        generalize (spansZ a o i (l.take j)).length = m at *
        go_wp2_with fail
        apply wp_region_free (16) [⟨6, 21, .int .i64 x, false, fun v _ => v = .int .i64 x⟩, ⟨13, 28, .int .i64 y, false, fun v _ => v = .int .i64 y⟩, ⟨15, 7, undef, true, isVar (.cells #[.int .i64 0, .int .i64 0] 75)⟩] [⟨15, 7, isVar (.cells #[.int .i64 0, .int .i64 0] 75)⟩] rfl (by kernel_rfl) (by kernel_rfl) (by kernel_rfl) (by simp) (by kernel_rfl)
        case hstab =>
          intro c hc
          simp only [List.mem_cons, List.not_mem_nil, or_false] at hc
          rcases hc with rfl | rfl | rfl
          · intro v x y hxy hv; exact hv
          · intro v x y hxy hv; exact hv
          · intro v x y hxy hv; exact isVar_stays hxy hv
        case hfix =>
          intro c hc
          simp only [List.mem_cons, List.not_mem_nil, or_false] at hc
          rcases hc with rfl | rfl | rfl
          · exact .inr fun u x h => h
          · exact .inr fun u x h => h
          · exact .inl rfl
        case hlex =>
          intro U hU
          have q_c0 := cell_on hU c0
          have q_c1 := cell_on hU c1
          have q_d0 := cell_on hU d0
          have q_d1 := cell_on hU d1
          have q_d2 := cell_on hU d2
          simp only [List.map_cons, List.map_nil, CA.act, actFrom, actOp, List.lookup, Nat.reduceBEq, Nat.reduceLeDiff, Nat.reduceAdd, if_false, if_true]
          repeat (go_big_quiet_step (first | fail))
          exact wpQuiet_nil rfl
        case hstep =>
          intro j hj o ho
          have hj2 : j = 0 ∨ j = 1 ∨ j = 2 := by simp at hj; omega
          rcases hj2 with rfl | rfl | rfl
          · cases ho
            refine ⟨rfl, fun g x hx hp => ?_⟩
            clear hp
            simp only [fillAll, Act.put, List.setIfInBounds_toArray, List.set_cons_zero, List.set_cons_succ]
            refine chain_go ?_ (free_fix (HX.out x))
            simp [go_sem, execOp]
          · cases ho
            refine ⟨rfl, fun g x hx hp => ?_⟩
            clear hp
            simp only [fillAll, Act.put, List.setIfInBounds_toArray, List.set_cons_zero, List.set_cons_succ]
            refine chain_go ?_ (free_fix (HY.out x))
            simp [go_sem, execOp]
          · cases ho
            refine ⟨rfl, fun g x hx hp => ?_⟩
            exact free_var (fun r x => by simp [go_sem, execOp])
        case htail =>
          intro g u hst hne
          have b_w2 : AnyLater wr (later u) := ⟨u, rfl⟩
          generalize later u = w2 at *
          clear u
          obtain ⟨⟨b7, e7, s0_w2⟩, o7_w2⟩ := hst _ (List.mem_of_getElem? (i := 0) rfl)
          dsimp only at e7 o7_w2
          have o7_w2 := o7_w2 b7 (by rw [e7]; rfl)
          clear hst hne
          simp only [fillAll, Act.put, List.setIfInBounds_toArray, List.set_cons_zero, List.set_cons_succ, List.drop_succ_cons, List.drop_zero, List.drop_nil]
          rw [e7]
          clear e7
          have z_w2 := b_w2.below.size
          have a_w2 := a_wr.trans b_w2
          have r0_w2 := own_row s0_w2
          have f0_w2 := own_free s0_w2
          have l0_w2 := own_lt s0_w2
          have c0_w2 := cell_on b_w2 c0
          have c1_w2 := cell_on b_w2 c1
          have d0_w2 := cell_on b_w2 d0
          have d1_w2 := cell_on b_w2 d1
          have d2_w2 := cell_on b_w2 d2
          have HB1 := Lib.hid ((b_w2.setCell (p := ⟨b7, 0, none⟩) o7_w2.1 (.int .i64 x)).setCell (p := ⟨b7, 0 + 1, none⟩) o7_w2.1 (.int .i64 y))
          clear a_wr a_w2 b_w2
          go_wp2_with fail
          go_roundg (n - (j + 1))
          case measure => omega
          case rel => exact ⟨j + 1, rfl, hlt, by go_num, HA.out.trans HB1.out, by rw [HT2.out]; exact OQ.later HB1.out HO.out⟩
      · obtain ⟨e1, e2, e3⟩ := spanZ_some hs
        obtain rfl : x = x' := hx.symm.trans e1
        obtain rfl : y = y' := hy.symm.trans e2
        rw [hs] at hT
        have HT2 := Lib.hid hT
        clear hs hT ho hx hy e1 e2
        generalize hm : (spansZ a o i (l.take j)).length = m at *
        have HM := Lib.hid hm
        clear hm
        go_wp2_with fail
        apply wp_region_free (16) [⟨6, 21, .int .i64 x, false, fun v _ => v = .int .i64 x⟩, ⟨13, 28, .int .i64 y, false, fun v _ => v = .int .i64 y⟩, ⟨15, 7, undef, true, isVar (.cells #[.int .i64 0, .int .i64 0] 75)⟩] [⟨15, 7, isVar (.cells #[.int .i64 0, .int .i64 0] 75)⟩] rfl (by kernel_rfl) (by kernel_rfl) (by kernel_rfl) (by simp) (by kernel_rfl)
        case hstab =>
          intro c hc
          simp only [List.mem_cons, List.not_mem_nil, or_false] at hc
          rcases hc with rfl | rfl | rfl
          · intro v x y hxy hv; exact hv
          · intro v x y hxy hv; exact hv
          · intro v x y hxy hv; exact isVar_stays hxy hv
        case hfix =>
          intro c hc
          simp only [List.mem_cons, List.not_mem_nil, or_false] at hc
          rcases hc with rfl | rfl | rfl
          · exact .inr fun u x h => h
          · exact .inr fun u x h => h
          · exact .inl rfl
        case hlex =>
          intro U hU
          have q_c0 := cell_on hU c0
          have q_c1 := cell_on hU c1
          have q_d0 := cell_on hU d0
          have q_d1 := cell_on hU d1
          have q_d2 := cell_on hU d2
          simp only [List.map_cons, List.map_nil, CA.act, actFrom, actOp, List.lookup, Nat.reduceBEq, Nat.reduceLeDiff, Nat.reduceAdd, if_false, if_true]
          repeat (go_big_quiet_step (first | fail))
          exact wpQuiet_nil rfl
        case hstep =>
          intro j hj o ho
          have hj2 : j = 0 ∨ j = 1 ∨ j = 2 := by simp at hj; omega
          rcases hj2 with rfl | rfl | rfl
          · cases ho
            refine ⟨rfl, fun g x hx hp => ?_⟩
            clear hp
            simp only [fillAll, Act.put, List.setIfInBounds_toArray, List.set_cons_zero, List.set_cons_succ]
            refine chain_go ?_ (free_fix (HX.out x))
            simp [go_sem, execOp]
          · cases ho
            refine ⟨rfl, fun g x hx hp => ?_⟩
            clear hp
            simp only [fillAll, Act.put, List.setIfInBounds_toArray, List.set_cons_zero, List.set_cons_succ]
            refine chain_go ?_ (free_fix (HY.out x))
            simp [go_sem, execOp]
          · cases ho
            refine ⟨rfl, fun g x hx hp => ?_⟩
            exact free_var (fun r x => by simp [go_sem, execOp])
        case htail =>
          intro g u hst hne
          have b_w2 : AnyLater wr (later u) := ⟨u, rfl⟩
          generalize later u = w2 at *
          clear u
          obtain ⟨⟨b7, e7, s0_w2⟩, o7_w2⟩ := hst _ (List.mem_of_getElem? (i := 0) rfl)
          dsimp only at e7 o7_w2
          have o7_w2 := o7_w2 b7 (by rw [e7]; rfl)
          clear hst hne
          simp only [fillAll, Act.put, List.setIfInBounds_toArray, List.set_cons_zero, List.set_cons_succ, List.drop_succ_cons, List.drop_zero, List.drop_nil]
          rw [e7]
          clear e7
          have z_w2 := b_w2.below.size
          have a_w2 := a_wr.trans b_w2
          have r0_w2 := own_row s0_w2
          have f0_w2 := own_free s0_w2
          have l0_w2 := own_lt s0_w2
          have c0_w2 := cell_on b_w2 c0
          have c1_w2 := cell_on b_w2 c1
          have d0_w2 := cell_on b_w2 d0
          have d1_w2 := cell_on b_w2 d1
          have d2_w2 := cell_on b_w2 d2
          have hb1 := (b_w2.setCell (p := ⟨b7, 0, none⟩) o7_w2.1 (.int .i64 x)).setCell (p := ⟨b7, 0 + 1, none⟩) o7_w2.1 (.int .i64 y)
          obtain ⟨u, w3, q1, q2, q3⟩ := appQ1 pairSpan (x, y) (OQ.later hb1 HO.out) (Nat.le_trans lw hb1.below.size) (by rw [HM.out]; omega)
          simp only [World.size_setCell, Nat.zero_add] at q1
          have K1 := Lib.hid q1
          have K2 := Lib.hid (And.intro (q3 (w.alloc (.cells #[.int .i64 a, .int .i64 o, .int .i64 i] 71)) (by rw [World.size_alloc]; omega) (HA.out.trans hb1)) q2)
          clear hb1 q1 q2 q3 a_wr a_w2 b_w2
          go_wp2_with (at_builtin; refine Lib.wpList_append_run _ rfl _ _ _ _ rfl _ _ rfl rfl _ _ K1.out ?_)
          go_roundg (n - (j + 1))
          case measure => omega
          case rel => exact ⟨j + 1, rfl, hlt, by go_num, K2.out.1, by rw [HT2.out]; exact K2.out.2⟩
    · obtain rfl : j = n := by omega
      clear a_wr ho
      go_wp2_with fail
      go_ret
      exact ⟨_, rfl, HA0.out.trans HA.out, OQ.wide (B := w.heap.size + 1) (by omega) (by rw [← HEnd.out]; exact HO.out)⟩

/-! ### Same -/
theorem stood_span : Try.prog.stoodInHeld 75 = false := by kernel_rfl
theorem fields_span : Try.prog.underlying 75 = some (.struct (Try.prog.fieldsOf 75)) := by kernel_rfl
theorem guard_span : Try.prog.eqGuardType Try.prog.depth 75 = false := by kernel_rfl
theorem eqSpan (a b c d : Int) (w : World) : (Op.equalIn 10000 75 (.agg #[.int .i64 a, .int .i64 b]) (.agg #[.int .i64 c, .int .i64 d])).run Try.prog w = .ok (a == c && b == d) w := by
  rw [run_equalIn_agg w 9999 _ _ _ fields_span stood_span]
  by_cases h1 : a = c
  · by_cases h2 : b = d
    · simp [go_sem, h1, h2]
    · simp [go_sem, h1, h2]
  · simp [go_sem, h1]
theorem neqSpan (a b c d : Int) (w : World) : (binOp .neq 75 (.agg #[.int .i64 a, .int .i64 b]) (.agg #[.int .i64 c, .int .i64 d])).run Try.prog w = .ok (.bool (!(a == c && b == d))) w := by
  rw [run_neq_struct, eqSpan]; rfl
theorem eqlSpan (a b c d : Int) (w : World) : (binOp .eql 75 (.agg #[.int .i64 a, .int .i64 b]) (.agg #[.int .i64 c, .int .i64 d])).run Try.prog w = .ok (.bool (a == c && b == d)) w := by
  rw [run_eql_struct, eqSpan]; rfl
set_option maxRecDepth 100000 in
set_option maxHeartbeats 1600000 in
theorem qsame_some (b off n cap b2 off2 cap2 : Nat) (l l2 : Qs) (w : World) (hl : l.length = n) (hl2 : l2.length = n) (hn : n ≤ 100000) (hc : ∀ (j : Nat) (h : j < l.length), w.cell? ⟨b, off + j * 2, none⟩ = some (.int .i64 l[j].1) ∧ w.cell? ⟨b, off + j * 2 + 1, none⟩ = some (.int .i64 l[j].2))
    (hc2 : ∀ (j : Nat) (h : j < l2.length), w.cell? ⟨b2, off2 + j * 2, none⟩ = some (.int .i64 l2[j].1) ∧ w.cell? ⟨b2, off2 + j * 2 + 1, none⟩ = some (.int .i64 l2[j].2)) (hb : b < w.heap.size) (hb2 : b2 < w.heap.size) :
    Calls Try.prog 46 #[.slice (some ⟨b, off, none⟩) n cap, .slice (some ⟨b2, off2, none⟩) n cap2] w fun e w' => e = .returned (.bool (decide (l = l2))) ∧ AnyLater w w' := by
  have HL := Lib.hid hl
  have HL2 := Lib.hid hl2
  have HC := Lib.hid hc
  have HC2 := Lib.hid hc2
  have gb := guard_span
  have nb := neqSpan
  clear hl hc hl2 hc2
  go_enter Try.func46, Try.ntmps46
  go_wp2_with fail
  go_loopg [5] n (fun k i wr => AnyLater w wr ∧ ∃ j : Nat, k = n - j ∧ j ≤ n ∧ i = .int .i64 j ∧ l.take j = l2.take j)
  case atStart => exact ⟨AnyLater.refl _, 0, by omega, by omega, rfl, by simp⟩
  case round =>
    obtain ⟨a_wr, j, hk, hj, rfl, hf⟩ := hrel
    have HF := Lib.hid hf
    have HA := Lib.hid a_wr
    clear hf
    by_cases hlt : j < n
    · have lj : j < l.length := by rw [HL.out]; exact hlt
      have lj2 : j < l2.length := by rw [HL2.out]; exact hlt
      have i1 : (j : Int) < (n : Int) := by omega
      have c0 : wr.cell? ⟨b, off + j * 2, none⟩ = some (.int .i64 l[j].1) := (a_wr.below.cell hb).trans (HC.out j lj).1
      have c1 : wr.cell? ⟨b, off + j * 2 + 1, none⟩ = some (.int .i64 l[j].2) := (a_wr.below.cell hb).trans (HC.out j lj).2
      have d0 : wr.cell? ⟨b2, off2 + j * 2, none⟩ = some (.int .i64 l2[j].1) := (a_wr.below.cell hb2).trans (HC2.out j lj2).1
      have d1 : wr.cell? ⟨b2, off2 + j * 2 + 1, none⟩ = some (.int .i64 l2[j].2) := (a_wr.below.cell hb2).trans (HC2.out j lj2).2
      have HT : Hid (l.take (j + 1) = l.take j ++ [l[j]] ∧ l2.take (j + 1) = l2.take j ++ [l2[j]]) := Lib.hid ⟨List.take_succ_eq_append_getElem lj, List.take_succ_eq_append_getElem lj2⟩
      have HD : Hid (l[j] ≠ l2[j] → decide (l = l2) = false) := Lib.hid (fun hx => decide_eq_false (fun e => hx (by subst e; rfl)))
      generalize l[j] = x at *
      generalize l2[j] = x2 at *
      obtain ⟨f, t⟩ := x
      obtain ⟨f2, t2⟩ := x2
      simp only at c0 c1 d0 d1
      clear a_wr
      by_cases h : f = f2 ∧ t = t2
      · obtain ⟨rfl, rfl⟩ := h
        go_wp2_with fail
        go_quiet (fail)
        go_wp2_with fail
        go_roundg (n - (j + 1))
        case measure => omega
        case rel => exact ⟨HA.out.drewN _, j + 1, rfl, hlt, by go_num, by rw [HT.out.1, HT.out.2, HF.out]⟩
      · have hd : (f == f2 && t == t2) = false := by
          rw [Bool.and_eq_false_iff]
          by_cases h1 : f = f2
          · right; simp; exact fun e => h ⟨h1, e⟩
          · left; simpa using h1
        have Q := Lib.hid (HD.out (fun e => h ⟨(Prod.mk.inj e).1, (Prod.mk.inj e).2⟩))
        clear h HD HT
        go_wp2_with fail
        go_quiet (fail)
        go_wp2_with fail
        go_ret
        exact ⟨ret_bool Q.out.symm, HA.out.drewN _⟩
    · obtain rfl : j = n := by omega
      have Q : Hid (decide (l = l2) = true) := Lib.hid (decide_eq_true (by
        have := HF.out
        rwa [List.take_of_length_le (Nat.le_of_eq HL.out), List.take_of_length_le (Nat.le_of_eq HL2.out)] at this))
      clear a_wr
      go_wp2_with fail
      go_ret
      exact ⟨ret_bool Q.out.symm, HA.out⟩
theorem qsame_apart (A A2 : Option Addr) (n n2 cap cap2 : Nat) (w : World) (h : n ≠ n2) :
    Calls Try.prog 46 #[.slice A n cap, .slice A2 n2 cap2] w fun e w' => e = .returned (.bool false) ∧ w = w' := by
  have h1 : ((n : Int) != (n2 : Int)) = true := by simp; omega
  clear h
  go_enter Try.func46, Try.ntmps46
  go_wp2_with fail
  go_ret
  exact ⟨rfl, rfl⟩
theorem qsame_none (A A2 : Option Addr) (cap cap2 : Nat) (w : World) :
    Calls Try.prog 46 #[.slice A 0 cap, .slice A2 0 cap2] w fun e w' => e = .returned (.bool true) ∧ w = w' := by
  go_enter Try.func46, Try.ntmps46
  go_wp2_with fail
  refine wp_loop_rounds 1 ?_
  rw [rounds_succ]
  go_wp2_with fail
  go_ret
  exact ⟨rfl, rfl⟩
/-- Same of any two lists of spans -/
theorem qsame_any (v v2 : Value) (l l2 : Qs) (w : World) (c : Bool) (hcc : decide (l = l2) = c) (h : QR w v l) (h2 : QR w v2 l2) (hn : l.length ≤ 100000) :
    Calls Try.prog 46 #[v, v2] w fun e w' => e = .returned (.bool c) ∧ AnyLater w w' := by
  subst hcc
  obtain ⟨A, cap, rfl, k1, k2⟩ := h
  obtain ⟨A2, cap2, rfl, m1, m2⟩ := h2
  by_cases hl : l.length = l2.length
  · rcases Nat.eq_zero_or_pos l.length with h0 | h0
    · obtain rfl := List.eq_nil_of_length_eq_zero h0
      obtain rfl := List.eq_nil_of_length_eq_zero (hl.symm.trans h0)
      exact same_later (qsame_none A A2 cap cap2 w)
    · obtain ⟨b, off, rfl, hb, hc⟩ := k2 h0
      obtain ⟨b2, off2, rfl, hb2, hc2⟩ := m2 (by omega)
      rw [← hl]
      exact qsame_some b off _ cap b2 off2 cap2 l l2 w rfl hl.symm hn hc hc2 hb hb2
  · have e : decide (l = l2) = false := decide_eq_false (fun e => hl (by rw [e]))
    rw [e]
    exact same_later (qsame_apart A A2 _ _ cap cap2 w hl)
end Go.Proofs.Ytiicaldnegcdiaa
