/- text: TextLimits, walked. -/
import Derived.Test.YtdhgombgbjldgaaTxtD
import Derived.Test.YtdhgombgbjldgaaWild
import Derived.Lib.AppendZeros
namespace Go.Proofs.Ytdhgombgbjldgaa
set_option linter.unusedSimpArgs false
set_option linter.unusedVariables false
set_option linter.unusedSectionVars false
open Go.RowKit

set_option maxRecDepth 100000 in
set_option maxHeartbeats 6400000 in
theorem textLimits_any (w : World) (v mv : Value) (b m : List Int) (most : Int) (hb : RN .u8 w v b) (hby : Bytes b) (hm : RN .u8 w mv m) (hmy : Bytes m) (r1 : I64r most) :
    Calls Try.prog 7 #[v, mv, .int .i64 most] w fun e w' => e = .returned (.bool true) ∧ AnyLater w w' := by
  obtain ⟨B, hB⟩ : ∃ B, b.take 50 = B := ⟨_, rfl⟩
  obtain ⟨M, hM⟩ : ∃ M, m.take 50 = M := ⟨_, rfl⟩
  have hB5 : B.length ≤ 50 := by rw [← hB, List.length_take]; omega
  have hM5 : M.length ≤ 50 := by rw [← hM, List.length_take]; omega
  have hBy : Bytes B := by rw [← hB]; exact fun c hc => hby c (List.mem_of_mem_take hc)
  have hMy : Bytes M := by rw [← hM]; exact fun c hc => hmy c (List.mem_of_mem_take hc)
  have HF := Lib.hid (few_any8 v b B 50 hB w hb (by omega))
  have HFm := Lib.hid (fun (w' : World) (e : AnyLater w w') => few_any8 mv m M 50 hM w' (hm.later e) (by omega))
  obtain ⟨Ab, capb, rfl, -⟩ := hb.form
  obtain ⟨Am, capm, rfl, -⟩ := hm.form
  have HV := Lib.hid tlives
  have HBM := Lib.hid (And.intro hB5 (And.intro hM5 (And.intro hBy hMy)))
  obtain ⟨kl, kh⟩ := r1
  clear hb hby hm hmy hB hM hBy hMy
  generalize b.length = nb at *
  generalize m.length = nm at *
  go_enter Try.func7, Try.ntmps7
  go_wp2_with fail
  refine HF.out.mono ?_
  rintro e w1 ⟨u1, rfl, b_w1, o1⟩
  have H1 := Lib.hid (And.intro b_w1 o1.rn)
  obtain ⟨A1, c1, rfl, -⟩ := o1.form
  clear b_w1 o1
  go_wp2_with fail
  refine (HFm.out _ H1.out.1).mono ?_
  rintro e w2 ⟨u2, rfl, b_w2, o2⟩
  have H2 := Lib.hid (And.intro (H1.out.1.trans b_w2) (And.intro (H1.out.2.later b_w2) o2.rn))
  obtain ⟨A2, c2, rfl, -⟩ := o2.form
  clear b_w2 o2
  obtain ⟨u3, w3, q1, q2, q3⟩ := copy8 H2.out.2.1 (by omega)
  have K1 := Lib.hid q1
  have H3 := Lib.hid (And.intro (H2.out.1.trans q2) (And.intro (H2.out.2.1.later q2) (And.intro (H2.out.2.2.later q2) q3.rn)))
  obtain ⟨A3, c3, rfl, -⟩ := q3.form
  clear q1 q2 q3
  obtain ⟨nB, hnB⟩ : ∃ n, B.length = n := ⟨_, rfl⟩
  obtain ⟨nM, hnM⟩ : ∃ n, M.length = n := ⟨_, rfl⟩
  have HN := Lib.hid (And.intro hnB hnM)
  rw [hnB] at hB5 K1 ⊢
  rw [hnM] at hM5 ⊢
  by_cases hc : newC nB most = 0
  · have hr : 0 ≤ most ∧ most ≤ 16777216 ∧ (nB : Int) ≤ most := by
      unfold newC at hc
      split at hc
      · cases hc
      · split at hc
        · cases hc
        · omega
    obtain ⟨r1, r2, r3⟩ := hr
    have HNw := Lib.hid (tnew_yes _ B most w3 H3.out.2.2.2 HBM.out.2.2.1 (by rw [hnB]; exact r3) ⟨r1, r2⟩ (by omega))
    rw [hnB] at HNw
    have d1 : decide (most < 0) = false := decide_eq_false (by omega)
    have d2 : decide (16777216 < most) = false := decide_eq_false (by omega)
    have d3 : decide (most < (nB : Int)) = false := decide_eq_false (by omega)
    clear hc hnB hnM
    go_wp2_with (at_builtin; refine Lib.wpList_append_run _ rfl _ _ _ _ rfl _ _ rfl rfl _ _ K1.out ?_)
    refine HNw.out.mono ?_
    rintro e w4 ⟨tg, g, rfl, b_w4, hg, -, -, h4⟩
    have hgw : w.heap.size ≤ g := Nat.le_trans H3.out.1.below.size hg
    have H4 := Lib.hid (And.intro (H3.out.1.trans b_w4) (And.intro (H3.out.2.1.later b_w4) (And.intro (H3.out.2.2.1.later b_w4) (And.intro h4 hgw))))
    clear b_w4 hg h4 hgw
    obtain ⟨u5, w5, q1, q2, q3⟩ := copy8 H4.out.2.2.1 (by rw [HN.out.2]; omega)
    have K2 := Lib.hid q1
    have H5 := Lib.hid (And.intro (H4.out.1.trans q2) (And.intro (H4.out.2.1.later q2) (And.intro (H4.out.2.2.2.1.later q2) q3.rn)))
    obtain ⟨A5, c5, rfl, -⟩ := q3.form
    rw [HN.out.2] at K2
    have hlen : (newT B).len = nB := by rw [← Tr.len_bs, newT_bs, HN.out.1]
    have okB : (newT B).Ok := newT_ok HBM.out.2.2.1 (by have := HBM.out.1; omega)
    clear q1 q2 q3
    by_cases hfit : (nM : Int) ≤ most - nB
    · have HI : Hid (Calls Try.prog 34 #[.pointer (some ⟨tg, 0, none⟩), .int .i64 (nB : Int), .slice A5 nM c5] w5 fun e w'' => e = .returned (.int .i64 0) ∧ But g w5 w'' ∧ True) := Lib.hid (tins_any tg g most (newT B) nB 0 A5 nM c5 (fun _ => True) w5 H5.out.2.2.1 (Lib.hid fun w' a => by
        have hu := H5.out.2.2.2.later a
        have hR := (H5.out.2.2.1.later a).2
        by_cases hz : 0 < M.length
        · have := rins_yes g most (newT B) nB _ M w' hR okB (by omega) hu HBM.out.2.2.2 hz (by rw [hlen, HN.out.2]; omega) ⟨r1, r2⟩ (by have := HBM.out.2.1; omega)
          rw [HN.out.2] at this
          exact this.mono fun e w'' ⟨h1, h2, _⟩ => ⟨h1, h2, trivial⟩
        · have hz0 : M.length = 0 := by omega
          rw [HN.out.2] at hz0
          rw [hz0]
          exact (rins_none g most (newT B) nB A5 c5 w' hR okB (by omega) (by rw [hlen]; exact r3) ⟨r1, r2⟩).mono fun e w'' ⟨h1, h2⟩ => ⟨h1, But.of h2, trivial⟩))
      have d4 : decide ((nM : Int) ≤ most - (nB : Int)) = true := decide_eq_true hfit
      clear hlen okB
      go_wp2_with (at_builtin; refine Lib.wpList_append_run _ rfl _ _ _ _ rfl _ _ rfl rfl _ _ K2.out ?_)
      refine HI.out.mono ?_
      rintro e w6 ⟨rfl, bb6, -⟩
      have a_w6 := But.any H5.out.1 H4.out.2.2.2.2 bb6
      clear bb6
      go_wp2_with fail
      apply Wild.wp_region_free (30) [⟨27, 90, .bool true, false, fun v _ => v = .bool true⟩] [] rfl (by kernel_rfl) (by kernel_rfl) (by kernel_rfl) (by simp) (by kernel_rfl)
      case hstab =>
        intro c hc
        simp only [List.mem_cons, List.not_mem_nil, or_false] at hc
        rcases hc with rfl
        · intro v x y hxy hv; exact hv
      case hfix =>
        intro c hc
        simp only [List.mem_cons, List.not_mem_nil, or_false] at hc
        rcases hc with rfl
        · exact .inr fun u x h => h
      case hlex =>
        intro U hU
        simp only [List.map_cons, List.map_nil, CA.act, actFrom, actOp, List.lookup, Nat.reduceBEq, Nat.reduceLeDiff, Nat.reduceAdd, if_false, if_true]
        repeat (go_big_quiet_step (fail))
        exact wpQuiet_nil rfl
      case hstep =>
        intro j hj o ho
        have hj2 : j = 0 := by simp at hj; omega
        rcases hj2 with rfl
        · cases ho
          refine ⟨rfl, fun g x hx hp => ?_⟩
          clear hp
          simp only [fillAll, Act.put, List.setIfInBounds_toArray, List.set_cons_zero, List.set_cons_succ]
          refine chain_go ?_ (Wild.free_fix (HV.out x))
          simp [go_sem, execOp]
      case htail =>
        intro g u hst hne
        have b_w7 : AnyLater w6 (later u) := ⟨u, rfl⟩
        generalize later u = w7 at *
        clear u hne
        clear hst
        simp only [fillAll, Act.put, List.setIfInBounds_toArray, List.set_cons_zero, List.set_cons_succ, List.drop_succ_cons, List.drop_zero, List.drop_nil]
        have z_w7 := b_w7.below.size
        have a_w7 := a_w6.trans b_w7
        go_wp2_with fail
        go_ret
        exact ⟨rfl, a_w7⟩
    · have HI : Hid (Calls Try.prog 34 #[.pointer (some ⟨tg, 0, none⟩), .int .i64 (nB : Int), .slice A5 nM c5] w5 fun e w'' => e = .returned (.int .i64 2) ∧ AnyLater w5 w'') := Lib.hid (by
        have := tins_any tg g most (newT B) nB 2 A5 nM c5 (fun x => AnyLater w5 x) w5 H5.out.2.2.1 (Lib.hid fun w' a => by
          have hR := (H5.out.2.2.1.later a).2
          exact (rins_full g most (newT B) nB nM A5 c5 w' hR okB (by omega) (by rw [hlen]; omega) ⟨r1, r2⟩).mono fun e w'' ⟨h1, h2⟩ => ⟨h1, But.of h2, a.trans h2⟩)
        exact this.mono fun e w'' ⟨h1, _, h3⟩ => ⟨h1, h3⟩)
      have HAll : Hid (∀ w', AnyLater w5 w' → Calls Try.prog 25 #[.pointer (some ⟨tg, 0, none⟩)] w' (Ans (isB B) w')) := Lib.hid (fun w' a => by
        have := tall_any _ (newT B) _ w' (H5.out.2.2.1.later a).tl okB
        rwa [newT_bs] at this)
      obtain ⟨S, hS⟩ : ∃ S, strOfNums B = S := ⟨_, rfl⟩
      have HS := Lib.hid hS
      have HBS : Hid (∀ x, AnyLater w5 x → (convert 28 9 (.slice A1 nB c1)).run Try.prog x = .ok (.string S) x) := Lib.hid (fun x a => by
        have := RN.str (H5.out.2.1.later a)
        rwa [HN.out.1, HS.out] at this)
      have d4 : decide ((nM : Int) ≤ most - (nB : Int)) = false := decide_eq_false hfit
      clear hlen okB hS
      go_wp2_with (at_builtin; refine Lib.wpList_append_run _ rfl _ _ _ _ rfl _ _ rfl rfl _ _ K2.out ?_)
      refine HI.out.mono ?_
      rintro e w6 ⟨rfl, b_w6⟩
      have a_w6 := H5.out.1.trans b_w6
      have H6 := Lib.hid b_w6
      clear b_w6
      go_wp2_with fail
      apply Wild.wp_region_free (30) [⟨18, 81, undef, true, isB B⟩, ⟨19, 82, .string S, false, fun v _ => v = .string S⟩, ⟨21, 84, .string S, false, fun v _ => v = .string S⟩, ⟨27, 90, .bool true, false, fun v _ => v = .bool true⟩] [⟨18, 81, isB B⟩] rfl (by kernel_rfl) (by kernel_rfl) (by kernel_rfl) (by simp) (by kernel_rfl)
      case hstab =>
        intro c hc
        simp only [List.mem_cons, List.not_mem_nil, or_false] at hc
        rcases hc with rfl | rfl | rfl | rfl
        · intro v x y hxy hv; exact isB_stays hxy hv
        · intro v x y hxy hv; exact hv
        · intro v x y hxy hv; exact hv
        · intro v x y hxy hv; exact hv
      case hfix =>
        intro c hc
        simp only [List.mem_cons, List.not_mem_nil, or_false] at hc
        rcases hc with rfl | rfl | rfl | rfl
        · exact .inl rfl
        · exact .inr fun u x h => h
        · exact .inr fun u x h => h
        · exact .inr fun u x h => h
      case hlex =>
        intro U hU
        simp only [List.map_cons, List.map_nil, CA.act, actFrom, actOp, List.lookup, Nat.reduceBEq, Nat.reduceLeDiff, Nat.reduceAdd, if_false, if_true]
        repeat (go_big_quiet_step (fail))
        exact wpQuiet_nil rfl
      case hstep =>
        intro j hj o ho
        have hj2 : j = 0 ∨ j = 1 ∨ j = 2 ∨ j = 3 := by simp at hj; omega
        rcases hj2 with rfl | rfl | rfl | rfl
        · cases ho
          refine ⟨rfl, fun g x hx hp => ?_⟩
          clear hp
          simp only [fillAll, Act.put, List.setIfInBounds_toArray, List.set_cons_zero, List.set_cons_succ]
          refine chain_go ?_ (Wild.free_tells (HAll.out x (H6.out.trans hx)))
          simp [go_sem, execOp]
        · cases ho
          refine ⟨rfl, fun g x hx hp => ?_⟩
          have p81 : (isB B) (g 18) x := hp _ (List.mem_of_getElem? (i := 0) rfl) (List.contains_iff_mem.1 (by kernel_rfl))
          clear hp
          simp only [fillAll, Act.put, List.setIfInBounds_toArray, List.set_cons_zero, List.set_cons_succ]
          (have hr := RN.str (RT.rn p81); rw [HS.out] at hr; refine Wild.free_op ?_; simp [go_sem, execOp, hr])
        · cases ho
          refine ⟨rfl, fun g x hx hp => ?_⟩
          clear hp
          simp only [fillAll, Act.put, List.setIfInBounds_toArray, List.set_cons_zero, List.set_cons_succ]
          (have hr := HBS.out x (H6.out.trans hx); refine Wild.free_op ?_; simp [go_sem, execOp, hr])
        · cases ho
          refine ⟨rfl, fun g x hx hp => ?_⟩
          clear hp
          simp only [fillAll, Act.put, List.setIfInBounds_toArray, List.set_cons_zero, List.set_cons_succ]
          refine chain_go ?_ (Wild.free_fix (HV.out x))
          simp [go_sem, execOp]
      case htail =>
        intro g u hst hne
        have b_w7 : AnyLater w6 (later u) := ⟨u, rfl⟩
        generalize later u = w7 at *
        clear u hne
        obtain ⟨p81_w7, -⟩ := hst _ (List.mem_of_getElem? (i := 0) rfl)
        (try dsimp only at p81_w7)
        clear hst
        simp only [fillAll, Act.put, List.setIfInBounds_toArray, List.set_cons_zero, List.set_cons_succ, List.drop_succ_cons, List.drop_zero, List.drop_nil]
        generalize g 18 = v81 at *
        have z_w7 := b_w7.below.size
        have a_w7 := a_w6.trans b_w7
        go_wp2_with fail
        go_ret
        exact ⟨rfl, a_w7⟩
  · have HNw := Lib.hid (tnew_no A3 nB c3 most _ w3 rfl hc)
    have hcc : (newC nB most = 1 ∧ (most < 0 ∨ 16777216 < most)) ∨ (newC nB most = 2 ∧ 0 ≤ most ∧ most ≤ 16777216 ∧ most < nB) := by
      unfold newC at hc ⊢
      split
      · exact .inl ⟨rfl, by assumption⟩
      · split
        · exact .inr ⟨rfl, by omega, by omega, by assumption⟩
        · rename_i q1 q2
          rw [if_neg q1, if_neg q2] at hc
          exact absurd rfl hc
    clear hc hnB hnM
    generalize newC nB most = c at *
    rcases hcc with ⟨rfl, h⟩ | ⟨rfl, h1, h2, h3⟩
    · by_cases h0 : most < 0
      case' pos => clear h
      case' neg =>
        have d0 : decide (most < 0) = false := decide_eq_false h0
        have d1 : 16777216 < most := by omega
        clear h h0
      all_goals
        go_wp2_with (at_builtin; refine Lib.wpList_append_run _ rfl _ _ _ _ rfl _ _ rfl rfl _ _ K1.out ?_)
        refine HNw.out.mono ?_
        rintro e w4 ⟨rfl, b_w4⟩
        have H4 := Lib.hid (H3.out.1.trans b_w4)
        clear b_w4
        go_wp2_with fail
        refine (HV.out _).mono ?_
        rintro e w5 ⟨rfl, b_w5⟩
        have H5 := Lib.hid (H4.out.trans b_w5)
        clear b_w5
        go_wp2_with fail
        go_ret
        exact ⟨rfl, H5.out⟩
    · have d0 : decide (most < 0) = false := decide_eq_false (by omega)
      have d1 : decide (16777216 < most) = false := decide_eq_false (by omega)
      go_wp2_with (at_builtin; refine Lib.wpList_append_run _ rfl _ _ _ _ rfl _ _ rfl rfl _ _ K1.out ?_)
      refine HNw.out.mono ?_
      rintro e w4 ⟨rfl, b_w4⟩
      have H4 := Lib.hid (H3.out.1.trans b_w4)
      clear b_w4
      go_wp2_with fail
      refine (HV.out _).mono ?_
      rintro e w5 ⟨rfl, b_w5⟩
      have H5 := Lib.hid (H4.out.trans b_w5)
      clear b_w5
      go_wp2_with fail
      go_ret
      exact ⟨rfl, H5.out⟩
end Go.Proofs.Ytdhgombgbjldgaa
