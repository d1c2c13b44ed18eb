/- carets: CaretsTidies. -/
import Derived.Test.YtkobnijjahpifaaCarO
import Derived.Test.YtkobnijjahpifaaPairZ
namespace Go.Proofs.Ytkobnijjahpifaa
set_option linter.unusedSimpArgs false
set_option linter.unusedVariables false
set_option linter.unusedSectionVars false
open Go.RowKit

/-- an append under a guard that is met -/
theorem cwp_append_met {P : Program} (w : World) {ops : Array Oper} {rest : List Oper} {o : Oper} {a : Act} {Q : Exit → Act → World → Prop} (hw : Region.wanted o (yielded ops a.tmps) = true) (s x : Operand) (t tn : TypeId)
    (ho : o.op = .call { callee := .builtin .append, args := #[s, x], argTypes := #[t, tn] }) (vs vx : Value) (hs : a.eval s = vs) (hx : a.eval x = vx)
    (v' : Value) (w' : World) (hr : (Builtin.append_ #[t, tn] o.type #[vs, vx]).run P w = .ok v' w') (h : wpList P ops Q rest (a.put o.dst v') w') : wpList P ops Q (o :: rest) a w := by
  unfold wpList
  rw [if_pos hw]
  exact .inl (Lib.wp_append_run w s x t tn ho vs vx hs hx v' w' hr h)
set_option maxRecDepth 100000 in
set_option maxHeartbeats 6400000 in
theorem caretsTidies_any (W : World) (v0 : Value) (l0 : Qs) (n at_ : Int) (hv : QR W v0 l0) : Calls Try.prog 3 #[v0, .int .i64 n, .int .i64 at_] W fun e w' => e = .returned (.bool true) ∧ AnyLater W w' := by
  obtain ⟨l, hl⟩ : ∃ l, l0.take 30 = l := ⟨_, rfl⟩
  have hlen : l.length ≤ 30 := by rw [← hl, List.length_take]; omega
  have HF0 := Lib.hid (cfew_any v0 l0 l W hl hv)
  have HF := Lib.hid (fun (w : World) (u : Value) (h : QR w u l) => cfew_any u l l w (List.take_of_length_le hlen) h)
  obtain ⟨M, hM⟩ : ∃ M, tidyC l = M := ⟨_, rfl⟩
  have hMl : M.length ≤ 30 := by rw [← hM]; exact Nat.le_trans (tidyC_len l) hlen
  have HT := Lib.hid (fun (w : World) (u : Value) (h : QR w u l) => tidy_any u l M w hM h (by omega))
  have HX := Lib.hid (fun (w : World) (u : Value) (h : QR w u l) => xtidy_any u l M w hM h (by omega))
  have HT2 := Lib.hid (fun (w : World) (u : Value) (h : QR w u M) => tidy_any u M M w (by rw [← hM]; exact tidyC_twice l) h (by omega))
  have HS := Lib.hid (fun (w : World) (u v : Value) (h : QR w u M) (k : QR w v M) => csame_any u v M M w true (by simp) h k (by omega))
  obtain ⟨b1, hb1⟩ : ∃ b, withinC l n = b := ⟨_, rfl⟩
  obtain ⟨b2, hb2⟩ : ∃ b, decide (l = M) = b := ⟨_, rfl⟩
  have HG := Lib.hid (fun (w : World) (u : Value) (h : QR w u l) => good_any u l n (decide (0 < l.length) && (b1 && b2)) w (by rw [← hb1, ← hb2, ← hM]; rfl) h (by omega))
  have HW := Lib.hid (fun (w : World) (u : Value) (h : QR w u l) => xwithin_any u l n b1 w hb1 h (by omega))
  have HS2 := Lib.hid (fun (w : World) (u v : Value) (h : QR w u l) (k : QR w v M) => csame_any u v l M w b2 hb2 h k (by omega))
  obtain ⟨b3, hb3⟩ : ∃ b, chosenC l at_ = b := ⟨_, rfl⟩
  obtain ⟨b4, hb4⟩ : ∃ b, chosenC M at_ = b := ⟨_, rfl⟩
  have HC := Lib.hid (fun (w : World) (u : Value) (h : QR w u l) => chosen_any u l at_ b3 w hb3 h (by omega))
  have HC2 := Lib.hid (fun (w : World) (u : Value) (h : QR w u M) => chosen_any u M at_ b4 w hb4 h (by omega))
  have H34 : Hid (b3 = true → b4 = true) := Lib.hid (fun e => by rw [← hb4, ← hM]; exact tidyC_chosen (hb3.trans e))
  have HMt : Hid (∀ (i k : Nat) (hi : i < M.length) (hk : k < i), meetC M[i] (M[k]'(by omega)) = false) := Lib.hid (by
    subst hM
    exact fun i k hi hk => tidyC_apart hi hk)
  have HLv := Lib.hid clives_any
  have hcopy := Lib.hid (fun (w : World) (u : Value) (h : QR w u M) => copyQ pairCaret (w := w) (v := u) h (by omega))
  obtain ⟨A0, cap0, rfl, -⟩ := hv.form
  obtain ⟨m, hm⟩ : ∃ m, l.length = m := ⟨_, rfl⟩
  obtain ⟨k, hk⟩ : ∃ k, M.length = k := ⟨_, rfl⟩
  have HN := Lib.hid (And.intro hm hk)
  rw [hm] at HG
  have hm9 : m ≤ 30 := by omega
  have hk9 : k ≤ 30 := by omega
  obtain ⟨z0, hz0⟩ : ∃ z, l0.length = z := ⟨_, rfl⟩
  rw [hz0] at HF0 ⊢
  clear hz0 hl hlen hM hMl hb1 hb2 hb3 hb4 hm hk hv
  go_enter Try.func3, Try.ntmps3
  go_wp2_with fail
  refine HF0.out.mono ?_
  rintro e w1 ⟨v1, rfl, b1', o1⟩
  have H1 := Lib.hid (And.intro b1' (OQ.rq o1))
  obtain ⟨A1, cap1, rfl, -⟩ := o1.form
  rw [HN.out.1] at H1 ⊢
  clear b1' o1
  go_wp2_with fail
  refine (HF.out _ _ H1.out.2).mono ?_
  rintro e w2 ⟨v2, rfl, b2', o2⟩
  have H2 := Lib.hid (And.intro (H1.out.1.trans b2') (And.intro (H1.out.2.later b2') (OQ.rq o2)))
  clear b2' o2
  go_wp2_with fail
  refine (HT.out _ _ H2.out.2.2).mono ?_
  rintro e w3 ⟨v3, rfl, b3', o3⟩
  have H3 := Lib.hid (And.intro (H2.out.1.trans b3') (And.intro (H2.out.2.1.later b3') (OQ.rq o3)))
  obtain ⟨A3, cap3, rfl, -⟩ := o3.form
  rw [HN.out.2] at H3 ⊢
  clear b3' o3
  go_wp2_with fail
  refine (HX.out _ _ H3.out.2.1).mono ?_
  rintro e w4 ⟨v4, rfl, b4', o4⟩
  have H4 := Lib.hid (And.intro (H3.out.1.trans b4') (And.intro (H3.out.2.1.later b4') (And.intro (H3.out.2.2.later b4') (OQ.rq o4))))
  obtain ⟨A4, cap4, rfl, -⟩ := o4.form
  rw [HN.out.2] at H4 ⊢
  clear b4' o4
  go_upto_region 3 with fail
  go_cut [41] (fun v wx => v = .bool false ∧ AnyLater w4 wx)
  case first =>
    go_wp2_with fail
    refine (HS.out _ _ _ H4.out.2.2.1 H4.out.2.2.2).mono ?_
    rintro e w5 ⟨rfl, b5⟩
    have HB5 := Lib.hid b5
    clear b5
    go_wp2_with fail
    refine (HF.out _ _ (H4.out.2.1.later HB5.out)).mono ?_
    rintro e w6 ⟨v6, rfl, b6, o6⟩
    have HB6 := Lib.hid (And.intro (HB5.out.trans b6) (OQ.rq o6))
    clear b6 o6
    go_wp2_with fail
    refine (HG.out _ _ HB6.out.2).mono ?_
    rintro e w7 ⟨rfl, b7⟩
    have HB7 := Lib.hid (HB6.out.1.trans b7)
    clear b7
    by_cases g0 : 0 < m
    · have g0' : (0 : Int) < (m : Int) := by omega
      rw [decide_eq_true g0, Bool.true_and]
      cases b1 with
      | true =>
        simp only [Bool.true_and]
        go_wp2_with fail
        refine (HW.out _ _ (H4.out.2.1.later HB7.out)).mono ?_
        rintro e w8 ⟨rfl, b8⟩
        have HB8 := Lib.hid (HB7.out.trans b8)
        clear b8
        go_wp2_with fail
        refine (HS2.out _ _ _ (H4.out.2.1.later HB8.out) (H4.out.2.2.2.later HB8.out)).mono ?_
        rintro e w9 ⟨rfl, b9⟩
        have HB9 := Lib.hid (HB8.out.trans b9)
        clear b9
        cases b2 with
        | true =>
          go_wp2_with fail
          go_meet
          case rel => exact ⟨rfl, HB9.out⟩
        | false =>
          go_wp2_with fail
          go_meet
          case rel => exact ⟨rfl, HB9.out⟩
      | false =>
        simp only [Bool.false_and]
        go_wp2_with fail
        refine (HW.out _ _ (H4.out.2.1.later HB7.out)).mono ?_
        rintro e w8 ⟨rfl, b8⟩
        have HB8 := Lib.hid (HB7.out.trans b8)
        clear b8
        go_wp2_with fail
        go_meet
        case rel => exact ⟨rfl, HB8.out⟩
    · have d0 : decide (0 < m) = false := decide_eq_false g0
      have d0' : decide ((0 : Int) < (m : Int)) = false := decide_eq_false (by omega)
      rw [d0, Bool.false_and]
      go_wp2_with fail
      go_meet
      case rel => exact ⟨rfl, HB7.out⟩
  case rest =>
    obtain ⟨rfl, b5⟩ := hcut
    have H5 := Lib.hid (And.intro (H4.out.1.trans b5) (And.intro (H4.out.2.1.later b5) (H4.out.2.2.1.later b5)))
    rename World => w5
    clear b5 H1 H2 H3 H4 HT HX HG HW HS2
    have hQM := H5.out.2.2
    have d0 : decide ((0 : Int) < 0) = false := by simp
    go_wp2_with fail
    go_loopg [9] k (fun kk iv wr => ∃ i : Nat, kk = k - i ∧ i ≤ k ∧ iv = .int .i64 (i : Int) ∧ AnyLater w5 wr)
    case atStart => exact ⟨0, by omega, by omega, rfl, AnyLater.refl _⟩
    case round =>
      obtain ⟨i, hk1, hi, rfl, a_wr⟩ := hrel
      rename World => wi
      have HA := Lib.hid a_wr
      clear a_wr
      by_cases hlt : i < k
      · have li : i < M.length := by rw [HN.out.2]; exact hlt
        have i0 : (i : Int) < (k : Int) := by omega
        go_wp2_with fail
        go_loopg [10] i (fun kk qv wr => ∃ q : Nat, kk = i - q ∧ q ≤ i ∧ qv = .int .i64 (q : Int) ∧ AnyLater w5 wr)
        case atStart => exact ⟨0, by omega, by omega, rfl, HA.out⟩
        case round =>
          obtain ⟨q, hk2, hqi, rfl, a_wr⟩ := hrel
          by_cases hlt2 : q < i
          · have i1 : (q : Int) < (i : Int) := by omega
            obtain ⟨b, off, rfl, hb, k0, k1⟩ := hQM.at i li
            have lq : q < M.length := by omega
            obtain ⟨b', off', e', hb', k2, k3⟩ := hQM.at q lq
            cases e'
            have c0 : wr.cell? ⟨b, off + i * 2, none⟩ = some (.int .i64 M[i].1) := (a_wr.below.cell hb).trans k0
            have c1 : wr.cell? ⟨b, off + i * 2 + 1, none⟩ = some (.int .i64 M[i].2) := (a_wr.below.cell hb).trans k1
            have d1 : wr.cell? ⟨b, off + q * 2, none⟩ = some (.int .i64 M[q].1) := (a_wr.below.cell hb).trans k2
            have d2 : wr.cell? ⟨b, off + q * 2 + 1, none⟩ = some (.int .i64 M[q].2) := (a_wr.below.cell hb).trans k3
            have hmt := HMt.out i q li hlt2
            have i2 : (q : Int) < (k : Int) := by omega
            clear k0 k1 k2 k3
            obtain ⟨x, hx⟩ : ∃ x, M[i] = x := ⟨_, rfl⟩
            obtain ⟨y, hy⟩ : ∃ y, M[q] = y := ⟨_, rfl⟩
            rw [hx] at c0 c1 hmt
            rw [hy] at d1 d2 hmt
            clear hx hy
            obtain ⟨x1, x2⟩ := x
            obtain ⟨y1, y2⟩ := y
            simp only at c0 c1 d1 d2
            have HMe := Lib.hid (fun w => meet_any x1 x2 y1 y2 w false hmt)
            clear hmt
            go_wp2_with fail
            apply wp_region_free (9) [⟨8, 61, .bool false, false, fun v _ => v = .bool false⟩] [] rfl (by kernel_rfl) (by kernel_rfl) (by kernel_rfl) (by simp) (by kernel_rfl)
            case hstab =>
              intro c hc
              simp only [List.mem_cons, List.not_mem_nil, or_false] at hc
              rcases hc with rfl
              · intro v x y hxy hv; exact hv
            case hfix =>
              intro c hc
              simp only [List.mem_cons, List.not_mem_nil, or_false] at hc
              rcases hc with rfl
              · exact .inr fun u x h => h
            case hlex =>
              intro U hU
              have q_c0 := cell_on hU c0
              have q_c1 := cell_on hU c1
              have q_d1 := cell_on hU d1
              have q_d2 := cell_on hU d2
              simp only [List.map_cons, List.map_nil, CA.act, actFrom, actOp, List.lookup, Nat.reduceBEq, Nat.reduceLeDiff, Nat.reduceAdd, if_false, if_true]
              repeat (go_big_quiet_step (first | fail))
              exact wpQuiet_nil rfl
            case hstep =>
              intro j hj o ho
              have hj2 : j = 0 := by simp at hj; omega
              rcases hj2 with rfl
              · cases ho
                refine ⟨rfl, fun g x hx hp => ?_⟩
                clear hp
                simp only [fillAll, Act.put, List.setIfInBounds_toArray, List.set_cons_zero, List.set_cons_succ]
                refine chain_go ?_ (free_fix (HMe.out x))
                first | (simp [go_sem, execOp]; done) | simp [go_sem, execOp, hcf]
            case htail =>
              intro g u hst hne
              have b_w6 : AnyLater wr (later u) := ⟨u, rfl⟩
              generalize later u = w6 at *
              clear u
              clear hst hne
              simp only [fillAll, Act.put, List.setIfInBounds_toArray, List.set_cons_zero, List.set_cons_succ, List.drop_succ_cons, List.drop_zero, List.drop_nil]
              have z_w6 := b_w6.below.size
              have a_w6 := a_wr.trans b_w6
              have c0_w6 := cell_on b_w6 c0
              have c1_w6 := cell_on b_w6 c1
              have d1_w6 := cell_on b_w6 d1
              have d2_w6 := cell_on b_w6 d2
              go_wp2_with fail
              go_roundg (i - (q + 1))
              case measure => omega
              case rel => exact ⟨q + 1, rfl, hlt2, by go_num, a_w6⟩
          · obtain rfl : q = i := by omega
            have d3 : decide ((q : Int) < (q : Int)) = false := by simp
            have HA2 := Lib.hid a_wr
            clear a_wr
            go_wp2_with fail
            go_roundg (k - (q + 1))
            case measure => omega
            case rel => exact ⟨q + 1, rfl, hlt, by go_num, HA2.out⟩
      · obtain rfl : i = k := by omega
        have d3 : decide ((i : Int) < (i : Int)) = false := by simp
        clear hQM hlt
        go_wp2_with fail
        refine (HF.out _ _ (H5.out.2.1.later HA.out)).mono ?_
        rintro e w7 ⟨v7, rfl, b7, o7⟩
        have H7 := Lib.hid (And.intro (HA.out.trans b7) (OQ.rq o7))
        clear b7 o7
        go_wp2_with fail
        refine (HC.out _ _ H7.out.2).mono ?_
        rintro e w8 ⟨rfl, b8⟩
        have H8 := Lib.hid (H7.out.1.trans b8)
        clear b8
        cases b3 with
        | false =>
          obtain ⟨u, w9, q1, q2, q3⟩ := hcopy.out _ _ (H5.out.2.2.later H8.out)
          have K1 := Lib.hid q1
          have K2 := Lib.hid (And.intro (H8.out.trans q2) (OQ.rq q3))
          clear q1 q2 q3
          go_wp2_with (at_builtin; refine cwp_append_met _ rfl _ _ _ _ rfl _ _ rfl rfl _ _ K1.out ?_)
          refine (HT2.out _ _ K2.out.2).mono ?_
          rintro e w10 ⟨v10, rfl, b10, o10⟩
          have H10 := Lib.hid (And.intro (K2.out.1.trans b10) (OQ.rq o10))
          clear b10 o10
          go_wp2_with fail
          refine (HS.out _ _ _ H10.out.2 (H5.out.2.2.later H10.out.1)).mono ?_
          rintro e w11 ⟨rfl, b11⟩
          have H11 := Lib.hid (H10.out.1.trans b11)
          clear b11
          go_wp2_with fail
          refine (HLv.out _).mono ?_
          rintro e w12 ⟨rfl, b12⟩
          have H12 := Lib.hid (H5.out.1.trans (H11.out.trans b12))
          clear b12
          go_wp2_with fail
          go_ret
          exact ⟨rfl, H12.out⟩
        | true =>
          have e4 : b4 = true := H34.out rfl
          subst e4
          go_wp2_with fail
          refine (HC2.out _ _ (H5.out.2.2.later H8.out)).mono ?_
          rintro e w8' ⟨rfl, b8'⟩
          have H8' := Lib.hid (H8.out.trans b8')
          clear b8'
          obtain ⟨u, w9, q1, q2, q3⟩ := hcopy.out _ _ (H5.out.2.2.later H8'.out)
          have K1 := Lib.hid q1
          have K2 := Lib.hid (And.intro (H8'.out.trans q2) (OQ.rq q3))
          clear q1 q2 q3
          go_wp2_with (at_builtin; refine cwp_append_met _ rfl _ _ _ _ rfl _ _ rfl rfl _ _ K1.out ?_)
          refine (HT2.out _ _ K2.out.2).mono ?_
          rintro e w10 ⟨v10, rfl, b10, o10⟩
          have H10 := Lib.hid (And.intro (K2.out.1.trans b10) (OQ.rq o10))
          clear b10 o10
          go_wp2_with fail
          refine (HS.out _ _ _ H10.out.2 (H5.out.2.2.later H10.out.1)).mono ?_
          rintro e w11 ⟨rfl, b11⟩
          have H11 := Lib.hid (H10.out.1.trans b11)
          clear b11
          go_wp2_with fail
          refine (HLv.out _).mono ?_
          rintro e w12 ⟨rfl, b12⟩
          have H12 := Lib.hid (H5.out.1.trans (H11.out.trans b12))
          clear b12
          go_wp2_with fail
          go_ret
          exact ⟨rfl, H12.out⟩
end Go.Proofs.Ytkobnijjahpifaa
