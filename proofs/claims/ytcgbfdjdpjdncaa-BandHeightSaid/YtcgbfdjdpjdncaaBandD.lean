/- band: what the program's functions are to tell (Says: to be proved of the code at hand); on that: lives. -/
import Derived.Test.YtcgbfdjdpjdncaaBandC
namespace Go.Proofs.Ytcgbfdjdpjdncaa
set_option linter.unusedSimpArgs false
set_option linter.unusedVariables false
set_option linter.unusedSectionVars false
open Go.RowKit

def Nums (l : Bands) : Prop := ∀ b ∈ l, (-9223372036854775808 ≤ b.1 ∧ b.1 ≤ 9223372036854775807) ∧ -9223372036854775808 ≤ b.2 ∧ b.2 ≤ 9223372036854775807
theorem GoodL.nums {l : Bands} (h : GoodL l) : Nums l := fun b hb => by have := h.1 b hb; omega
/-- good bands of just these rows -/
def Told (W : World) (f : Int → Bool) (e : Ending) (w' : World) : Prop := ∃ v T, e = .returned v ∧ AnyLater W w' ∧ RB w' v T ∧ GoodL T ∧ ∀ y, inB T y = f y
def heightL (T : Bands) : Int := (T.map fun b => b.2 - b.1).sum
def clampB (y : Int) : Int := max (-1073741824) (min 1073741824 y)
structure Says : Prop where
  tidy : ∀ (v : Value) (l : Bands) (w : World), RB w v l → Nums l → l.length ≤ 1000 → Calls Try.prog 13 #[v] w (Told w (inB l))
  join : ∀ (v v2 : Value) (l l2 : Bands) (w : World), RB w v l → RB w v2 l2 → Nums l → Nums l2 → l.length ≤ 1000 → l2.length ≤ 1000 → Calls Try.prog 15 #[v, v2] w (Told w fun y => inB l y || inB l2 y)
  meet : ∀ (v v2 : Value) (l l2 : Bands) (w : World), RB w v l → RB w v2 l2 → Nums l → Nums l2 → l.length ≤ 1000 → l2.length ≤ 1000 → Calls Try.prog 16 #[v, v2] w (Told w fun y => inB l y && inB l2 y)
  less : ∀ (v v2 : Value) (l l2 : Bands) (w : World), RB w v l → RB w v2 l2 → Nums l → Nums l2 → l.length ≤ 1000 → l2.length ≤ 1000 → Calls Try.prog 17 #[v, v2] w (Told w fun y => inB l y && !inB l2 y)
  has : ∀ (v : Value) (l : Bands) (y : Int) (w : World) (c : Bool), inB l y = c → RB w v l → Nums l → l.length ≤ 1000 → -9223372036854775808 ≤ y → y ≤ 9223372036854775807 → Calls Try.prog 18 #[v, .int .i64 y] w fun e w' => e = .returned (.bool c) ∧ AnyLater w w'
  good : ∀ (v : Value) (l : Bands) (w : World) (c : Bool), (c = true ↔ GoodL l) → RB w v l → Nums l → l.length ≤ 1000 → Calls Try.prog 19 #[v] w fun e w' => e = .returned (.bool c) ∧ AnyLater w w'
  height : ∀ (v : Value) (l T : Bands) (w : World), RB w v l → Nums l → l.length ≤ 1000 → GoodL T → (∀ y, inB T y = inB l y) → Calls Try.prog 21 #[v] w fun e w' => e = .returned (.int .i64 (heightL T)) ∧ AnyLater w w'
  move : ∀ (v : Value) (l : Bands) (d f t : Int) (w : World), RB w v l → Nums l → l.length ≤ 1000 → Nums [(d, d), (f, t)] → Calls Try.prog 20 #[v, .int .i64 d, .int .i64 f, .int .i64 t] w (Told w fun y => inB l (y - clampB d) && decide (clampB f ≤ y ∧ y < clampB t))

theorem lives_two (y : Int) : inB [(0, 3), (3, 5)] y = inB [(0, 5)] y := by
  rw [inB_cons, inB_cons, inB_cons, inB_nil, Bool.or_false, Bool.or_false, Bool.eq_iff_iff]
  simp only [Bool.or_eq_true, decide_eq_true_eq]
  omega
theorem good_five : GoodL [(0, 5)] := ⟨by intro b hb; obtain rfl := List.mem_singleton.1 hb; omega, List.pairwise_singleton _ _⟩
theorem RB.block {w : World} {g cap : Nat} {cur : Array Value} {l : Bands} (h : w.heap[g]? = some (.cells cur 38)) (hc : cur.toList = flatB l) (hl : l.length ≤ cap) : RB w (.slice (some ⟨g, 0, none⟩) l.length cap) l := by
  refine ⟨some ⟨g, 0, none⟩, cap, rfl, hl, fun _ => ⟨g, 0, rfl, own_lt h, fun j hj => ?_⟩⟩
  have e : ∀ k, cur[k]? = (flatB l)[k]? := fun k => by rw [← hc, Array.getElem?_toList]
  rw [Nat.zero_add, own_row h, own_row h, e, e, flatB_0, flatB_1, List.getElem?_eq_getElem hj]
  exact ⟨rfl, rfl⟩
set_option maxRecDepth 100000 in
set_option maxHeartbeats 1600000 in
theorem lives_any (S : Says) (w : World) :
    Calls Try.prog 10 #[] w fun e w' => e = .returned (.bool true) ∧ AnyLater w w' := by
  have gb := guard_band
  have nb := eqlBand
  have HL := Lib.hid ((AnyLater.refl w).alloc (.cells #[.int .i64 0, .int .i64 3, .int .i64 3, .int .i64 5] 38))
  have C := Lib.hid (S.tidy _ [(0, 3), (3, 5)] (w.alloc (.cells #[.int .i64 0, .int .i64 3, .int .i64 3, .int .i64 5] 38)) (RB.block (cap := 2) (heap_new rfl) rfl (by decide)) (by intro b hb; simp at hb; rcases hb with rfl | rfl <;> simp only <;> omega) (by decide))
  have HS := Lib.hid S
  clear S
  go_enter Try.func10, Try.ntmps10
  go_wp2_with fail
  refine C.out.mono ?_
  rintro e w1 ⟨v, T, rfl, b1, hr, hg, hy⟩
  obtain rfl : T = [(0, 5)] := good_unique hg good_five (fun y => by rw [hy, lives_two])
  have a_w1 := HL.out.trans b1
  have HR := Lib.hid hr
  obtain ⟨A, cap, rfl, h2, h3⟩ := hr
  obtain ⟨b, off, rfl, hb, hc⟩ := h3 (by decide)
  have c0 : w1.cell? ⟨b, off, none⟩ = some (.int .i64 0) := (hc 0 (by decide)).1
  have c1 : w1.cell? ⟨b, off + 1, none⟩ = some (.int .i64 5) := (hc 0 (by decide)).2
  clear hc h3 hy b1 hg h2 C
  simp only [List.length_cons, List.length_nil, Nat.zero_add] at *
  go_wp2_with fail
  refine (HS.out.good _ [(0, 5)] _ true ⟨fun _ => good_five, fun _ => rfl⟩ HR.out good_five.nums (by decide)).mono ?_
  rintro e w2 ⟨rfl, b_w2⟩
  have z_w2 := b_w2.below.size
  have a_w2 := a_w1.trans b_w2
  go_wp2_with fail
  refine (HS.out.height _ [(0, 5)] [(0, 5)] _ (HR.out.later b_w2) good_five.nums (by decide) good_five (fun _ => rfl)).mono ?_
  rintro e w3 ⟨rfl, b_w3⟩
  have z_w3 := b_w3.below.size
  have a_w3 := a_w2.trans b_w3
  have h5 : heightL [(0, 5)] = 5 := by decide
  rw [h5]
  go_wp2_with fail
  go_ret
  exact ⟨rfl, a_w3⟩

/-! ### BandHas -/
theorem nums_take {l : Bands} (h : Nums l) (n : Nat) : Nums (l.take n) := fun b hb => h b (List.mem_of_mem_take hb)
theorem few_same (v : Value) (l : Bands) (w : World) (h : RB w v l) (hl : l.length ≤ 30) : Calls Try.prog 8 #[v] w (RowB w l) := by
  have := few_any v l w h
  rwa [List.take_of_length_le hl] at this
set_option maxRecDepth 100000 in
set_option maxHeartbeats 3200000 in
theorem has_law (S : Says) (v1 v2 : Value) (l1 l2 : Bands) (y : Int) (w : World) (h1 : RB w v1 l1) (h2 : RB w v2 l2) (n1 : Nums l1) (n2 : Nums l2) (hy : -9223372036854775808 ≤ y ∧ y ≤ 9223372036854775807) :
    Calls Try.prog 4 #[v1, v2, .int .i64 y] w fun e w' => e = .returned (.bool true) ∧ AnyLater w w' := by
  have HY := Lib.hid hy
  have F1 := Lib.hid (few_any v1 l1 w h1)
  have F3 := Lib.hid (fun w' (ha : AnyLater w w') => few_any v2 l2 w' (h2.later ha))
  have HS := Lib.hid S
  have HK : Hid ((l1.take 30).length ≤ 30 ∧ (l2.take 30).length ≤ 30) := Lib.hid ⟨by rw [List.length_take]; omega, by rw [List.length_take]; omega⟩
  have HM := Lib.hid (And.intro (nums_take n1 30) (nums_take n2 30))
  clear h1 h2 S n1 n2 hy
  generalize l1.take 30 = a at *
  generalize l2.take 30 = b at *
  have K1 : Hid (a.length ≤ 1000) := Lib.hid (by have := HK.out.1; omega)
  have K2 : Hid (b.length ≤ 1000) := Lib.hid (by have := HK.out.2; omega)
  have k5 : Hid (a.length ≤ 100000 ∧ b.length ≤ 100000) := Lib.hid ⟨by have := HK.out.1; omega, by have := HK.out.2; omega⟩
  rcases hx : inB a y
  all_goals
    rcases hz : inB b y
  all_goals
    have HX := Lib.hid hx
    have HZ := Lib.hid hz
    have I1 := Lib.hid (fun (v : Value) (w : World) (h : RB w v a) => in_any v a y w h k5.out.1)
    have I2 := Lib.hid (fun (v : Value) (w : World) (h : RB w v b) => in_any v b y w h k5.out.2)
    rw [hx] at I1
    rw [hz] at I2
    clear hx hz
    go_enter Try.func4, Try.ntmps4
    go_wp2_with fail
    refine F1.out.mono ?_
    rintro e w1 ⟨va, rfl, a_w1, o1⟩
    go_wp2_with fail
    refine (F3.out w1 a_w1).mono ?_
    rintro e w2 ⟨vb, rfl, b_w2, o2⟩
    have a_w2 := a_w1.trans b_w2
    have c_w2 := AnyLater.refl w2
    have RA := Lib.hid (fun w' (ha : AnyLater w2 w') => (o1.reads.later b_w2).later ha)
    have RBb := Lib.hid (fun w' (ha : AnyLater w2 w') => o2.reads.later ha)
    clear o1 o2 b_w2 F1 F3
    go_wp2_with fail
    refine (I1.out va w2 (RA.out w2 c_w2)).mono ?_
    rintro e w9 ⟨rfl, rfl⟩
    go_wp2_with fail
    refine (I2.out vb w2 (RBb.out w2 c_w2)).mono ?_
    rintro e w9 ⟨rfl, rfl⟩
    go_wp2_with fail
    refine (few_same va a w2 (RA.out w2 c_w2) HK.out.1).mono ?_
    rintro e w11 ⟨v_w11, rfl, b_w11, o_w11⟩
    have a_w11 := a_w2.trans b_w11
    have c_w11 := c_w2.trans b_w11
    have R_w11 := Lib.hid o_w11.reads
    have B_w11 := Lib.hid b_w11
    clear o_w11 b_w11
    go_wp2_with fail
    refine (HS.out.has v_w11 a y w11 _ HX.out R_w11.out HM.out.1 K1.out HY.out.1 HY.out.2).mono ?_
    rintro e w12 ⟨rfl, b_w12⟩
    have a_w12 := a_w11.trans b_w12
    have c_w12 := c_w11.trans b_w12
    have B_w12 := Lib.hid b_w12
    clear b_w12
    go_wp2_with fail
    refine (few_same va a w12 (RA.out w12 c_w12) HK.out.1).mono ?_
    rintro e w13 ⟨v_w13, rfl, b_w13, o_w13⟩
    have a_w13 := a_w12.trans b_w13
    have c_w13 := c_w12.trans b_w13
    have R_w13 := Lib.hid o_w13.reads
    have B_w13 := Lib.hid b_w13
    clear o_w13 b_w13
    go_wp2_with fail
    refine (HS.out.tidy v_w13 a w13 R_w13.out HM.out.1 K1.out).mono ?_
    rintro e w14 ⟨v_w14, T_w14, rfl, b_w14, r_w14, g_w14, q_w14⟩
    have a_w14 := a_w13.trans b_w14
    have c_w14 := c_w13.trans b_w14
    have R_w14 := Lib.hid r_w14
    have G_w14 := Lib.hid g_w14
    have Q_w14 := Lib.hid q_w14
    have B_w14 := Lib.hid b_w14
    clear r_w14 b_w14 g_w14 q_w14
    go_wp2_with fail
    refine (HS.out.has v_w14 T_w14 y w14 _ ((Q_w14.out y).trans HX.out) R_w14.out G_w14.out.nums (Nat.le_trans (len_one G_w14.out Q_w14.out) (by have := HK.out.1; omega)) HY.out.1 HY.out.2).mono ?_
    rintro e w15 ⟨rfl, b_w15⟩
    have a_w15 := a_w14.trans b_w15
    have c_w15 := c_w14.trans b_w15
    have B_w15 := Lib.hid b_w15
    clear b_w15
    go_wp2_with fail
    refine (few_same va a w15 (RA.out w15 c_w15) HK.out.1).mono ?_
    rintro e w16 ⟨v_w16, rfl, b_w16, o_w16⟩
    have a_w16 := a_w15.trans b_w16
    have c_w16 := c_w15.trans b_w16
    have R_w16 := Lib.hid o_w16.reads
    have B_w16 := Lib.hid b_w16
    clear o_w16 b_w16
    go_wp2_with fail
    refine (few_same vb b w16 (RBb.out w16 c_w16) HK.out.2).mono ?_
    rintro e w17 ⟨v_w17, rfl, b_w17, o_w17⟩
    have a_w17 := a_w16.trans b_w17
    have c_w17 := c_w16.trans b_w17
    have R_w17 := Lib.hid o_w17.reads
    have B_w17 := Lib.hid b_w17
    clear o_w17 b_w17
    go_wp2_with fail
    refine (HS.out.join v_w16 v_w17 a b w17 (R_w16.out.later B_w17.out) R_w17.out HM.out.1 HM.out.2 K1.out K2.out).mono ?_
    rintro e w18 ⟨v_w18, T_w18, rfl, b_w18, r_w18, g_w18, q_w18⟩
    have a_w18 := a_w17.trans b_w18
    have c_w18 := c_w17.trans b_w18
    have R_w18 := Lib.hid r_w18
    have G_w18 := Lib.hid g_w18
    have Q_w18 := Lib.hid q_w18
    have B_w18 := Lib.hid b_w18
    clear r_w18 b_w18 g_w18 q_w18
    go_wp2_with fail
    refine (HS.out.has v_w18 T_w18 y w18 _ ((Q_w18.out y).trans (by rw [HX.out, HZ.out])) R_w18.out G_w18.out.nums (Nat.le_trans (len_or G_w18.out Q_w18.out) (by have := HK.out; omega)) HY.out.1 HY.out.2).mono ?_
    rintro e w19 ⟨rfl, b_w19⟩
    have a_w19 := a_w18.trans b_w19
    have c_w19 := c_w18.trans b_w19
    have B_w19 := Lib.hid b_w19
    clear b_w19
    go_wp2_with fail
    refine (few_same va a w19 (RA.out w19 c_w19) HK.out.1).mono ?_
    rintro e w20 ⟨v_w20, rfl, b_w20, o_w20⟩
    have a_w20 := a_w19.trans b_w20
    have c_w20 := c_w19.trans b_w20
    have R_w20 := Lib.hid o_w20.reads
    have B_w20 := Lib.hid b_w20
    clear o_w20 b_w20
    go_wp2_with fail
    refine (few_same vb b w20 (RBb.out w20 c_w20) HK.out.2).mono ?_
    rintro e w21 ⟨v_w21, rfl, b_w21, o_w21⟩
    have a_w21 := a_w20.trans b_w21
    have c_w21 := c_w20.trans b_w21
    have R_w21 := Lib.hid o_w21.reads
    have B_w21 := Lib.hid b_w21
    clear o_w21 b_w21
    go_wp2_with fail
    refine (HS.out.meet v_w20 v_w21 a b w21 (R_w20.out.later B_w21.out) R_w21.out HM.out.1 HM.out.2 K1.out K2.out).mono ?_
    rintro e w22 ⟨v_w22, T_w22, rfl, b_w22, r_w22, g_w22, q_w22⟩
    have a_w22 := a_w21.trans b_w22
    have c_w22 := c_w21.trans b_w22
    have R_w22 := Lib.hid r_w22
    have G_w22 := Lib.hid g_w22
    have Q_w22 := Lib.hid q_w22
    have B_w22 := Lib.hid b_w22
    clear r_w22 b_w22 g_w22 q_w22
    go_wp2_with fail
    refine (HS.out.has v_w22 T_w22 y w22 _ ((Q_w22.out y).trans (by rw [HX.out, HZ.out])) R_w22.out G_w22.out.nums (Nat.le_trans (len_and G_w22.out Q_w22.out) (by have := HK.out; omega)) HY.out.1 HY.out.2).mono ?_
    rintro e w23 ⟨rfl, b_w23⟩
    have a_w23 := a_w22.trans b_w23
    have c_w23 := c_w22.trans b_w23
    have B_w23 := Lib.hid b_w23
    clear b_w23
    go_wp2_with fail
    refine (few_same va a w23 (RA.out w23 c_w23) HK.out.1).mono ?_
    rintro e w24 ⟨v_w24, rfl, b_w24, o_w24⟩
    have a_w24 := a_w23.trans b_w24
    have c_w24 := c_w23.trans b_w24
    have R_w24 := Lib.hid o_w24.reads
    have B_w24 := Lib.hid b_w24
    clear o_w24 b_w24
    go_wp2_with fail
    refine (few_same vb b w24 (RBb.out w24 c_w24) HK.out.2).mono ?_
    rintro e w25 ⟨v_w25, rfl, b_w25, o_w25⟩
    have a_w25 := a_w24.trans b_w25
    have c_w25 := c_w24.trans b_w25
    have R_w25 := Lib.hid o_w25.reads
    have B_w25 := Lib.hid b_w25
    clear o_w25 b_w25
    go_wp2_with fail
    refine (HS.out.less v_w24 v_w25 a b w25 (R_w24.out.later B_w25.out) R_w25.out HM.out.1 HM.out.2 K1.out K2.out).mono ?_
    rintro e w26 ⟨v_w26, T_w26, rfl, b_w26, r_w26, g_w26, q_w26⟩
    have a_w26 := a_w25.trans b_w26
    have c_w26 := c_w25.trans b_w26
    have R_w26 := Lib.hid r_w26
    have G_w26 := Lib.hid g_w26
    have Q_w26 := Lib.hid q_w26
    have B_w26 := Lib.hid b_w26
    clear r_w26 b_w26 g_w26 q_w26
    go_wp2_with fail
    refine (HS.out.has v_w26 T_w26 y w26 _ ((Q_w26.out y).trans (by rw [HX.out, HZ.out])) R_w26.out G_w26.out.nums (Nat.le_trans (len_not G_w26.out Q_w26.out) (by have := HK.out; omega)) HY.out.1 HY.out.2).mono ?_
    rintro e w27 ⟨rfl, b_w27⟩
    have a_w27 := a_w26.trans b_w27
    have c_w27 := c_w26.trans b_w27
    have B_w27 := Lib.hid b_w27
    clear b_w27
    go_wp2_with fail
    refine (lives_any HS.out w27).mono ?_
    rintro e w28 ⟨rfl, b_w28⟩
    have a_w28 := a_w27.trans b_w28
    have c_w28 := c_w27.trans b_w28
    have B_w28 := Lib.hid b_w28
    clear b_w28
    go_wp2_with fail
    go_ret
    exact ⟨rfl, a_w28⟩
end Go.Proofs.Ytcgbfdjdpjdncaa
