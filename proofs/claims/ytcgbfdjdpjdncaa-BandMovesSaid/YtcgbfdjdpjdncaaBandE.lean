/- band: the law that what is made is good, on what the program's functions are to tell. -/
import Derived.Test.YtcgbfdjdpjdncaaBandD
namespace Go.Proofs.Ytcgbfdjdpjdncaa
set_option linter.unusedSimpArgs false
set_option linter.unusedVariables false
set_option linter.unusedSectionVars false
open Go.RowKit

set_option maxRecDepth 100000 in
set_option maxHeartbeats 3200000 in
theorem good_law (S : Says) (v1 v2 : Value) (l1 l2 : Bands) (w : World) (h1 : RB w v1 l1) (h2 : RB w v2 l2) (n1 : Nums l1) (n2 : Nums l2) :
    Calls Try.prog 5 #[v1, v2] w fun e w' => e = .returned (.bool true) ∧ AnyLater w w' := by
  have F1 := Lib.hid (few_any v1 l1 w h1)
  have F3 := Lib.hid (fun w' (ha : AnyLater w w') => few_any v2 l2 w' (h2.later ha))
  have HS := Lib.hid S
  have HK : Hid ((l1.take 30).length ≤ 30 ∧ (l2.take 30).length ≤ 30) := Lib.hid ⟨by rw [List.length_take]; omega, by rw [List.length_take]; omega⟩
  have HM := Lib.hid (And.intro (nums_take n1 30) (nums_take n2 30))
  clear h1 h2 S n1 n2
  generalize l1.take 30 = a at *
  generalize l2.take 30 = b at *
  have K1 : Hid (a.length ≤ 1000) := Lib.hid (by have := HK.out.1; omega)
  have K2 : Hid (b.length ≤ 1000) := Lib.hid (by have := HK.out.2; omega)
  go_enter Try.func5, Try.ntmps5
  go_wp2_with fail
  refine F1.out.mono ?_
  rintro e w1 ⟨va, rfl, a_w1, o1⟩
  go_wp2_with fail
  refine (F3.out w1 a_w1).mono ?_
  rintro e w2 ⟨vb, rfl, b_w2, o2⟩
  have a_w2 := a_w1.trans b_w2
  have c_w2 := AnyLater.refl w2
  have RA := Lib.hid (fun w' (ha : AnyLater w2 w') => (o1.reads.later b_w2).later ha)
  have RBb := Lib.hid (fun w' (ha : AnyLater w2 w') => o2.reads.later ha)
  clear o1 o2 b_w2 F1 F3
  go_wp2_with fail
  refine (few_same va a w2 (RA.out w2 c_w2) HK.out.1).mono ?_
  rintro e w11 ⟨v_w11, rfl, b_w11, o_w11⟩
  have a_w11 := a_w2.trans b_w11
  have c_w11 := c_w2.trans b_w11
  have R_w11 := Lib.hid o_w11.reads
  have B_w11 := Lib.hid b_w11
  clear o_w11 b_w11
  go_wp2_with fail
  refine (HS.out.tidy v_w11 a w11 R_w11.out HM.out.1 K1.out).mono ?_
  rintro e w12 ⟨v_w12, T_w12, rfl, b_w12, r_w12, g_w12, q_w12⟩
  have a_w12 := a_w11.trans b_w12
  have c_w12 := c_w11.trans b_w12
  have R_w12 := Lib.hid r_w12
  have G_w12 := Lib.hid g_w12
  have Q_w12 := Lib.hid q_w12
  have B_w12 := Lib.hid b_w12
  clear r_w12 b_w12 g_w12 q_w12
  go_wp2_with fail
  refine (few_same va a w12 (RA.out w12 c_w12) HK.out.1).mono ?_
  rintro e w13 ⟨v_w13, rfl, b_w13, o_w13⟩
  have a_w13 := a_w12.trans b_w13
  have c_w13 := c_w12.trans b_w13
  have R_w13 := Lib.hid o_w13.reads
  have B_w13 := Lib.hid b_w13
  clear o_w13 b_w13
  go_wp2_with fail
  refine (few_same vb b w13 (RBb.out w13 c_w13) HK.out.2).mono ?_
  rintro e w14 ⟨v_w14, rfl, b_w14, o_w14⟩
  have a_w14 := a_w13.trans b_w14
  have c_w14 := c_w13.trans b_w14
  have R_w14 := Lib.hid o_w14.reads
  have B_w14 := Lib.hid b_w14
  clear o_w14 b_w14
  go_wp2_with fail
  refine (HS.out.join v_w13 v_w14 a b w14 (R_w13.out.later B_w14.out) R_w14.out HM.out.1 HM.out.2 K1.out K2.out).mono ?_
  rintro e w15 ⟨v_w15, T_w15, rfl, b_w15, r_w15, g_w15, q_w15⟩
  have a_w15 := a_w14.trans b_w15
  have c_w15 := c_w14.trans b_w15
  have R_w15 := Lib.hid r_w15
  have G_w15 := Lib.hid g_w15
  have Q_w15 := Lib.hid q_w15
  have B_w15 := Lib.hid b_w15
  clear r_w15 b_w15 g_w15 q_w15
  go_wp2_with fail
  refine (few_same va a w15 (RA.out w15 c_w15) HK.out.1).mono ?_
  rintro e w16 ⟨v_w16, rfl, b_w16, o_w16⟩
  have a_w16 := a_w15.trans b_w16
  have c_w16 := c_w15.trans b_w16
  have R_w16 := Lib.hid o_w16.reads
  have B_w16 := Lib.hid b_w16
  clear o_w16 b_w16
  go_wp2_with fail
  refine (few_same vb b w16 (RBb.out w16 c_w16) HK.out.2).mono ?_
  rintro e w17 ⟨v_w17, rfl, b_w17, o_w17⟩
  have a_w17 := a_w16.trans b_w17
  have c_w17 := c_w16.trans b_w17
  have R_w17 := Lib.hid o_w17.reads
  have B_w17 := Lib.hid b_w17
  clear o_w17 b_w17
  go_wp2_with fail
  refine (HS.out.meet v_w16 v_w17 a b w17 (R_w16.out.later B_w17.out) R_w17.out HM.out.1 HM.out.2 K1.out K2.out).mono ?_
  rintro e w18 ⟨v_w18, T_w18, rfl, b_w18, r_w18, g_w18, q_w18⟩
  have a_w18 := a_w17.trans b_w18
  have c_w18 := c_w17.trans b_w18
  have R_w18 := Lib.hid r_w18
  have G_w18 := Lib.hid g_w18
  have Q_w18 := Lib.hid q_w18
  have B_w18 := Lib.hid b_w18
  clear r_w18 b_w18 g_w18 q_w18
  go_wp2_with fail
  refine (few_same va a w18 (RA.out w18 c_w18) HK.out.1).mono ?_
  rintro e w19 ⟨v_w19, rfl, b_w19, o_w19⟩
  have a_w19 := a_w18.trans b_w19
  have c_w19 := c_w18.trans b_w19
  have R_w19 := Lib.hid o_w19.reads
  have B_w19 := Lib.hid b_w19
  clear o_w19 b_w19
  go_wp2_with fail
  refine (few_same vb b w19 (RBb.out w19 c_w19) HK.out.2).mono ?_
  rintro e w20 ⟨v_w20, rfl, b_w20, o_w20⟩
  have a_w20 := a_w19.trans b_w20
  have c_w20 := c_w19.trans b_w20
  have R_w20 := Lib.hid o_w20.reads
  have B_w20 := Lib.hid b_w20
  clear o_w20 b_w20
  go_wp2_with fail
  refine (HS.out.less v_w19 v_w20 a b w20 (R_w19.out.later B_w20.out) R_w20.out HM.out.1 HM.out.2 K1.out K2.out).mono ?_
  rintro e w21 ⟨v_w21, T_w21, rfl, b_w21, r_w21, g_w21, q_w21⟩
  have a_w21 := a_w20.trans b_w21
  have c_w21 := c_w20.trans b_w21
  have R_w21 := Lib.hid r_w21
  have G_w21 := Lib.hid g_w21
  have Q_w21 := Lib.hid q_w21
  have B_w21 := Lib.hid b_w21
  clear r_w21 b_w21 g_w21 q_w21
  go_wp2_with fail
  refine (HS.out.good v_w12 T_w12 w21 true ⟨fun _ => G_w12.out, fun _ => rfl⟩ (R_w12.out.later ((((((((B_w13.out.trans B_w14.out).trans B_w15.out).trans B_w16.out).trans B_w17.out).trans B_w18.out).trans B_w19.out).trans B_w20.out).trans B_w21.out)) G_w12.out.nums (Nat.le_trans (len_one G_w12.out Q_w12.out) (by have := HK.out.1; omega))).mono ?_
  rintro e w22 ⟨rfl, b_w22⟩
  have a_w22 := a_w21.trans b_w22
  have c_w22 := c_w21.trans b_w22
  have B_w22 := Lib.hid b_w22
  clear b_w22
  go_wp2_with fail
  refine (HS.out.good v_w15 T_w15 w22 true ⟨fun _ => G_w15.out, fun _ => rfl⟩ (R_w15.out.later ((((((B_w16.out.trans B_w17.out).trans B_w18.out).trans B_w19.out).trans B_w20.out).trans B_w21.out).trans B_w22.out)) G_w15.out.nums (Nat.le_trans (len_or G_w15.out Q_w15.out) (by have := HK.out; omega))).mono ?_
  rintro e w23 ⟨rfl, b_w23⟩
  have a_w23 := a_w22.trans b_w23
  have c_w23 := c_w22.trans b_w23
  have B_w23 := Lib.hid b_w23
  clear b_w23
  go_wp2_with fail
  refine (HS.out.good v_w18 T_w18 w23 true ⟨fun _ => G_w18.out, fun _ => rfl⟩ (R_w18.out.later ((((B_w19.out.trans B_w20.out).trans B_w21.out).trans B_w22.out).trans B_w23.out)) G_w18.out.nums (Nat.le_trans (len_and G_w18.out Q_w18.out) (by have := HK.out; omega))).mono ?_
  rintro e w24 ⟨rfl, b_w24⟩
  have a_w24 := a_w23.trans b_w24
  have c_w24 := c_w23.trans b_w24
  have B_w24 := Lib.hid b_w24
  clear b_w24
  go_wp2_with fail
  refine (HS.out.good v_w21 T_w21 w24 true ⟨fun _ => G_w21.out, fun _ => rfl⟩ (R_w21.out.later ((B_w22.out.trans B_w23.out).trans B_w24.out)) G_w21.out.nums (Nat.le_trans (len_not G_w21.out Q_w21.out) (by have := HK.out; omega))).mono ?_
  rintro e w25 ⟨rfl, b_w25⟩
  have a_w25 := a_w24.trans b_w25
  have c_w25 := c_w24.trans b_w25
  have B_w25 := Lib.hid b_w25
  clear b_w25
  go_wp2_with fail
  obtain ⟨c, hc⟩ : ∃ c, decide (a = T_w12) = c := ⟨_, rfl⟩
  have HC := Lib.hid hc
  have HCG : Hid (c = true ↔ GoodL a) := Lib.hid (by rw [← hc, decide_eq_true_eq]; exact ⟨fun e => by rw [e]; exact G_w12.out, fun h => good_unique h G_w12.out (fun y => (Q_w12.out y).symm)⟩)
  clear hc
  refine (few_same va a w25 (RA.out w25 c_w25) HK.out.1).mono ?_
  rintro e w26 ⟨v_w26, rfl, b_w26, o_w26⟩
  have a_w26 := a_w25.trans b_w26
  have c_w26 := c_w25.trans b_w26
  have R_w26 := Lib.hid o_w26.reads
  have B_w26 := Lib.hid b_w26
  clear o_w26 b_w26
  go_wp2_with fail
  refine (HS.out.good v_w26 a w26 c HCG.out R_w26.out HM.out.1 K1.out).mono ?_
  rintro e w27 ⟨rfl, b_w27⟩
  have a_w27 := a_w26.trans b_w27
  have c_w27 := c_w26.trans b_w27
  have B_w27 := Lib.hid b_w27
  clear b_w27
  go_wp2_with fail
  refine (same_any va v_w12 a T_w12 w27 c HC.out (RA.out w27 c_w27) (R_w12.out.later ((((((((((((((B_w13.out.trans B_w14.out).trans B_w15.out).trans B_w16.out).trans B_w17.out).trans B_w18.out).trans B_w19.out).trans B_w20.out).trans B_w21.out).trans B_w22.out).trans B_w23.out).trans B_w24.out).trans B_w25.out).trans B_w26.out).trans B_w27.out)) (by have := HK.out.1; omega)).mono ?_
  rintro e w28 ⟨rfl, b_w28⟩
  have a_w28 := a_w27.trans b_w28
  have c_w28 := c_w27.trans b_w28
  have B_w28 := Lib.hid b_w28
  clear b_w28
  go_wp2_with fail
  refine (HS.out.join v_w18 v_w21 T_w18 T_w21 w28 (R_w18.out.later (((((((((B_w19.out.trans B_w20.out).trans B_w21.out).trans B_w22.out).trans B_w23.out).trans B_w24.out).trans B_w25.out).trans B_w26.out).trans B_w27.out).trans B_w28.out)) (R_w21.out.later ((((((B_w22.out.trans B_w23.out).trans B_w24.out).trans B_w25.out).trans B_w26.out).trans B_w27.out).trans B_w28.out)) G_w18.out.nums G_w21.out.nums (Nat.le_trans (len_and G_w18.out Q_w18.out) (by have := HK.out; omega)) (Nat.le_trans (len_not G_w21.out Q_w21.out) (by have := HK.out; omega))).mono ?_
  rintro e w29 ⟨v_w29, T_w29, rfl, b_w29, r_w29, g_w29, q_w29⟩
  have a_w29 := a_w28.trans b_w29
  have c_w29 := c_w28.trans b_w29
  have R_w29 := Lib.hid r_w29
  have G_w29 := Lib.hid g_w29
  have Q_w29 := Lib.hid q_w29
  have B_w29 := Lib.hid b_w29
  clear r_w29 b_w29 g_w29 q_w29
  go_wp2_with fail
  have E1 : Hid (T_w29 = T_w12) := Lib.hid (good_unique G_w29.out G_w12.out (fun y => by rw [Q_w29.out, Q_w18.out, Q_w21.out, Q_w12.out]; cases inB a y <;> cases inB b y <;> rfl))
  refine (same_any v_w29 v_w12 T_w29 T_w12 w29 true (decide_eq_true E1.out) R_w29.out (R_w12.out.later ((((((((((((((((B_w13.out.trans B_w14.out).trans B_w15.out).trans B_w16.out).trans B_w17.out).trans B_w18.out).trans B_w19.out).trans B_w20.out).trans B_w21.out).trans B_w22.out).trans B_w23.out).trans B_w24.out).trans B_w25.out).trans B_w26.out).trans B_w27.out).trans B_w28.out).trans B_w29.out)) (by have h1 := congrArg List.length E1.out; have h2 := len_one G_w12.out Q_w12.out; have := HK.out.1; omega)).mono ?_
  rintro e w30 ⟨rfl, b_w30⟩
  have a_w30 := a_w29.trans b_w30
  have c_w30 := c_w29.trans b_w30
  have B_w30 := Lib.hid b_w30
  clear b_w30
  go_wp2_with fail
  refine (HS.out.tidy v_w12 T_w12 w30 (R_w12.out.later (((((((((((((((((B_w13.out.trans B_w14.out).trans B_w15.out).trans B_w16.out).trans B_w17.out).trans B_w18.out).trans B_w19.out).trans B_w20.out).trans B_w21.out).trans B_w22.out).trans B_w23.out).trans B_w24.out).trans B_w25.out).trans B_w26.out).trans B_w27.out).trans B_w28.out).trans B_w29.out).trans B_w30.out)) G_w12.out.nums (Nat.le_trans (len_one G_w12.out Q_w12.out) (by have := HK.out.1; omega))).mono ?_
  rintro e w31 ⟨v_w31, T_w31, rfl, b_w31, r_w31, g_w31, q_w31⟩
  have a_w31 := a_w30.trans b_w31
  have c_w31 := c_w30.trans b_w31
  have R_w31 := Lib.hid r_w31
  have G_w31 := Lib.hid g_w31
  have Q_w31 := Lib.hid q_w31
  have B_w31 := Lib.hid b_w31
  clear r_w31 b_w31 g_w31 q_w31
  go_wp2_with fail
  have E2 : Hid (T_w31 = T_w12) := Lib.hid (good_unique G_w31.out G_w12.out (fun y => Q_w31.out y))
  refine (same_any v_w31 v_w12 T_w31 T_w12 w31 true (decide_eq_true E2.out) R_w31.out (R_w12.out.later ((((((((((((((((((B_w13.out.trans B_w14.out).trans B_w15.out).trans B_w16.out).trans B_w17.out).trans B_w18.out).trans B_w19.out).trans B_w20.out).trans B_w21.out).trans B_w22.out).trans B_w23.out).trans B_w24.out).trans B_w25.out).trans B_w26.out).trans B_w27.out).trans B_w28.out).trans B_w29.out).trans B_w30.out).trans B_w31.out)) (by have h1 := congrArg List.length E2.out; have h2 := len_one G_w12.out Q_w12.out; have := HK.out.1; omega)).mono ?_
  rintro e w32 ⟨rfl, b_w32⟩
  have a_w32 := a_w31.trans b_w32
  have c_w32 := c_w31.trans b_w32
  have B_w32 := Lib.hid b_w32
  clear b_w32
  go_wp2_with fail
  refine (lives_any HS.out w32).mono ?_
  rintro e w33 ⟨rfl, b_w33⟩
  have a_w33 := a_w32.trans b_w33
  have c_w33 := c_w32.trans b_w33
  have B_w33 := Lib.hid b_w33
  clear b_w33
  go_wp2_with fail
  go_ret
  exact ⟨rfl, a_w33⟩
end Go.Proofs.Ytcgbfdjdpjdncaa
