/- folds: FoldsOpen, walked. -/
import Derived.Test.YtiicaldnegcdiaaGreatFldK
import Derived.Test.YtiicaldnegcdiaaGreatFldI
import Derived.Test.YtiicaldnegcdiaaGreatFldG
namespace Go.Proofs.YtiicaldnegcdiaaGreat
set_option linter.unusedSimpArgs false
set_option linter.unusedVariables false
set_option linter.unusedSectionVars false
open Go.RowKit

theorem kept_none (p : Int × Int → Bool) (l : Qs) : (keptQ p l).any p = false := by
  rw [List.any_eq_false]
  intro x hx
  unfold keptQ at hx
  have := (List.mem_filter.1 hx).2
  simpa using this
set_option maxRecDepth 100000 in
set_option maxHeartbeats 3200000 in
theorem foldsOpen_any (W : World) (v0 v1 : Value) (z0 : List Int) (z1 : Qs) (a2 : Int) (r0z : RN .u8 W v0 z0) (n0 : Bytes z0) (r1z : QR W v1 z1) (b2 : -9223372036854775808 ≤ a2 ∧ a2 ≤ 9223372036854775807) :
    Calls Tryz.prog 4 #[v0, v1, .int .i64 a2] W fun e W' => e = .returned (.bool true) ∧ AnyLater W W' := by
  generalize W = w at *
  generalize a2 = y at *
  obtain ⟨b, hb⟩ : ∃ b, z0.take 80 = b := ⟨_, rfl⟩
  obtain ⟨l, hl⟩ : ∃ l, z1.take 30 = l := ⟨_, rfl⟩
  have hll : l.length ≤ 30 := by rw [← hl, List.length_take]; omega
  have hbl : b.length ≤ 80 := by rw [← hb, List.length_take]; omega
  have hby : Bytes b := by rw [← hb]; exact fun c hc => n0 c (List.mem_of_mem_take hc)
  have ok : (newT b).Ok := newT_ok hby (by omega)
  have bs1 := newT_bs b
  have ln1 : (newT b).len = b.length := by rw [← Tr.len_bs, bs1]
  have fd1 : fds (newT b) = feN 0 b := by unfold fds; rw [bs1]
  have HFew0 := Lib.hid (few_any8 v0 z0 b 80 hb w r0z (by decide))
  have HFew1 := Lib.hid (fun (w' : World) (a : AnyLater w w') => (ffew_any v1 z1 l w' hl (r1z.later a)).mono fun _ _ q => q.qr)
  have HFew := Lib.hid (fun (x : World) (u : Value) (h : QR x u l) => (ffew_any u l l x (List.take_of_length_le hll) h).mono fun _ _ q => q.qr)
  have HNw := Lib.hid (fun (x : World) (u : Value) (h : RN .u8 x u b) => tnew_yes u b 100 x h hby (by omega) ⟨by decide, by decide⟩ (by omega))
  generalize newT b = t at *
  obtain ⟨M, hM⟩ : ∃ M, opensL (feN 0 b) b.length y l = M := ⟨_, rfl⟩
  have hM2 : opensL (fds t) t.len y l = M := by rw [fd1, ln1]; exact hM
  have hML : M.length ≤ 30 := by
    rw [← hM]
    unfold opensL
    split
    · exact Nat.le_trans (List.length_filter_le _ _) hll
    · exact hll
  have HOp := Lib.hid (fun (x : World) (u : Value) (tg g : Nat) (h : QR x u l) (h2 : IsTx x tg g 100 t) => fopens_any u l tg g 100 t y M x hM2 h (by omega) h2 ok b2)
  have HSame := Lib.hid (fun (x : World) (u v : Value) (h : QR x u M) (h2 : QR x v M) => qsame_any u v M M x true (decide_eq_true rfl) h h2 (by omega))
  by_cases hin : 0 ≤ y ∧ y ≤ (b.length : Int)
  · obtain ⟨k, hk⟩ : ∃ k, below y (feN 0 b) = k := ⟨_, rfl⟩
    have hMk : keptQ (hid1 (feN 0 b) b.length (k : Int)) l = M := by rw [← hM]; unfold opensL; rw [if_pos hin, hk]
    have HLi := Lib.hid (fun (x : World) (u : Value) (h : RN .u8 x u b) => xline_any u b y k x hk hin h (by omega))
    have HXo := Lib.hid (fun (x : World) (u ub : Value) (h : QR x u l) (h2 : RN .u8 x ub b) => (xopens_any u ub l b (k : Int) M x hMk h (by omega) h2 (by omega)).mono fun _ _ q => q.qr)
    have HXh := Lib.hid (fun (x : World) (u ub : Value) (h : QR x u M) (h2 : RN .u8 x ub b) => xhidden_any u ub M b (k : Int) false x (by rw [← hMk]; exact kept_none _ _) h (by omega) h2 (by omega))
    have d1 : decide (y < 0) = false := decide_eq_false (by omega)
    have d2 : decide ((b.length : Int) < y) = false := decide_eq_false (by omega)
    obtain ⟨Ab, cb, rfl, -⟩ := r0z.form
    obtain ⟨Al, cl, rfl, -⟩ := r1z.form
    clear hb hl hby ok bs1 ln1 fd1 r0z r1z n0 hk hM hM2 hMk hin
    generalize z0.length = m0 at *
    generalize z1.length = m1 at *
    go_enter Tryz.func4, Tryz.ntmps4
    go_wp2_with fail
    refine HFew0.out.mono ?_
    rintro e w1 ⟨u1, rfl, b_w1, o1⟩
    have HB1 := Lib.hid b_w1
    have HRb := Lib.hid o1.rn
    obtain ⟨A1, c1, rfl, -⟩ := o1.form
    clear b_w1 o1
    go_wp2_with fail
    refine (HFew1.out _ HB1.out).mono ?_
    rintro e w2 ⟨u2, rfl, b_w2, p2⟩
    have HB2 := Lib.hid (HB1.out.trans b_w2)
    have HRb2 := Lib.hid (HRb.out.later b_w2)
    have HRl := Lib.hid p2
    obtain ⟨A2, c2, rfl, -⟩ := p2.form
    obtain ⟨u3, w3, k1, k2, k3⟩ := copy8 HRb2.out (by omega)
    have K1 := Lib.hid k1
    have HB3 := Lib.hid (And.intro (HB2.out.trans k2) (And.intro (HRb2.out.later k2) (And.intro (HRl.out.later k2) k3.rn)))
    obtain ⟨A3, c3, rfl, -⟩ := k3.form
    clear b_w2 p2 k1 k2 k3
    generalize b.length = nb at *
    generalize l.length = nl at *
    go_wp2_with (at_builtin; refine Lib.wpList_append_run _ rfl _ _ _ _ rfl _ _ rfl rfl _ _ K1.out ?_)
    refine (HNw.out _ _ HB3.out.2.2.2).mono ?_
    rintro e w4 ⟨tg, g, rfl, b_w4, -, -, -, h4⟩
    have HB4 := Lib.hid (And.intro (HB3.out.1.trans b_w4) (And.intro (HB3.out.2.1.later b_w4) (And.intro (HB3.out.2.2.1.later b_w4) h4)))
    clear b_w4 h4 HB1 HB2 HB3 HRb HRb2 HRl HFew0 HFew1 HNw
    go_wp2_with fail
    refine (HFew.out _ _ HB4.out.2.2.1).mono ?_
    rintro e w5 ⟨u5, rfl, b5, p5⟩
    have HP5 := Lib.hid p5
    have HB5 := Lib.hid b5
    obtain ⟨A5, c5, rfl, -⟩ := p5.form
    clear b5 p5
    generalize l.length = n5 at *
    go_wp2_with fail
    refine (HOp.out _ _ tg g HP5.out (HB4.out.2.2.2.later HB5.out)).mono ?_
    rintro e w6 ⟨u6, rfl, b6, p6⟩
    have HP6 := Lib.hid p6
    have HB6 := Lib.hid (HB5.out.trans b6)
    obtain ⟨A6, c6, rfl, -⟩ := p6.form
    clear b6 p6
    generalize M.length = n6 at *
    go_wp2_with fail
    refine (HLi.out _ _ (HB4.out.2.1.later HB6.out)).mono ?_
    rintro e w7 ⟨rfl, b7⟩
    have HB7 := Lib.hid (And.intro b7 (HB6.out.trans b7))
    clear b7
    go_wp2_with fail
    refine (HXo.out _ _ _ (HB4.out.2.2.1.later HB7.out.2) (HB4.out.2.1.later HB7.out.2)).mono ?_
    rintro e w8 ⟨u8, rfl, b8, p8⟩
    have HP8 := Lib.hid p8
    have HB8 := Lib.hid (And.intro (HB7.out.1.trans b8) (HB7.out.2.trans b8))
    obtain ⟨A8, c8, rfl, -⟩ := p8.form
    clear b8 p8
    generalize M.length = n8 at *
    go_wp2_with fail
    refine (HSame.out _ _ _ (HP6.out.later HB8.out.1) HP8.out).mono ?_
    rintro e w9 ⟨rfl, b9⟩
    have HB9 := Lib.hid (And.intro (HB8.out.1.trans b9) (HB8.out.2.trans b9))
    clear b9
    go_wp2_with fail
    refine (HXh.out _ _ _ (HP6.out.later HB9.out.1) (HB4.out.2.1.later HB9.out.2)).mono ?_
    rintro e w10 ⟨rfl, b10⟩
    have HB10 := Lib.hid (HB9.out.2.trans b10)
    clear b10
    go_wp2_with fail
    refine (flives _).mono ?_
    rintro e w11 ⟨rfl, b11⟩
    have HB11 := Lib.hid (HB4.out.1.trans (HB10.out.trans b11))
    clear b11
    go_wp2_with fail
    go_ret
    exact ⟨rfl, HB11.out⟩
  · have hMl : l = M := by rw [← hM]; unfold opensL; rw [if_neg hin]
    have hout : y < 0 ∨ (b.length : Int) < y := by omega
    obtain ⟨Ab, cb, rfl, -⟩ := r0z.form
    obtain ⟨Al, cl, rfl, -⟩ := r1z.form
    clear hb hl hby ok bs1 ln1 fd1 r0z r1z n0 hM hM2 hin
    generalize z0.length = m0 at *
    generalize z1.length = m1 at *
    obtain ⟨d1, hd1⟩ : ∃ d, decide (y < 0) = d := ⟨_, rfl⟩
    have hd2 : d1 = false → (b.length : Int) < y := fun h => by
      rw [h] at hd1
      have := of_decide_eq_false hd1
      omega
    cases d1
    case' false =>
      have hd3 := hd2 rfl
      clear hd2 hout
    case' true =>
      have hd3 := of_decide_eq_true hd1
      clear hd1 hd2 hout
    all_goals
      go_enter Tryz.func4, Tryz.ntmps4
      go_wp2_with fail
      refine HFew0.out.mono ?_
      rintro e w1 ⟨u1, rfl, b_w1, o1⟩
      have HB1 := Lib.hid b_w1
      have HRb := Lib.hid o1.rn
      obtain ⟨A1, c1, rfl, -⟩ := o1.form
      clear b_w1 o1
      go_wp2_with fail
      refine (HFew1.out _ HB1.out).mono ?_
      rintro e w2 ⟨u2, rfl, b_w2, p2⟩
      have HB2 := Lib.hid (HB1.out.trans b_w2)
      have HRb2 := Lib.hid (HRb.out.later b_w2)
      have HRl := Lib.hid p2
      obtain ⟨A2, c2, rfl, -⟩ := p2.form
      obtain ⟨u3, w3, k1, k2, k3⟩ := copy8 HRb2.out (by omega)
      have K1 := Lib.hid k1
      have HB3 := Lib.hid (And.intro (HB2.out.trans k2) (And.intro (HRb2.out.later k2) (And.intro (HRl.out.later k2) k3.rn)))
      obtain ⟨A3, c3, rfl, -⟩ := k3.form
      clear b_w2 p2 k1 k2 k3
      generalize b.length = nb at *
      generalize hnl : l.length = nl at *
      have HNl := Lib.hid hnl
      clear hnl
      go_wp2_with (at_builtin; refine Lib.wpList_append_run _ rfl _ _ _ _ rfl _ _ rfl rfl _ _ K1.out ?_)
      refine (HNw.out _ _ HB3.out.2.2.2).mono ?_
      rintro e w4 ⟨tg, g, rfl, b_w4, -, -, -, h4⟩
      have HB4 := Lib.hid (And.intro (HB3.out.1.trans b_w4) (And.intro (HB3.out.2.1.later b_w4) (And.intro (HB3.out.2.2.1.later b_w4) h4)))
      clear b_w4 h4 HB1 HB2 HB3 HRb HRb2 HRl HFew0 HFew1 HNw
      go_wp2_with fail
      refine (HFew.out _ _ HB4.out.2.2.1).mono ?_
      rintro e w5 ⟨u5, rfl, b5, p5⟩
      have HP5 := Lib.hid p5
      have HB5 := Lib.hid b5
      obtain ⟨A5, c5, rfl, -⟩ := p5.form
      clear b5 p5
      generalize l.length = n5 at *
      go_wp2_with fail
      refine (HOp.out _ _ tg g HP5.out (HB4.out.2.2.2.later HB5.out)).mono ?_
      rintro e w6 ⟨u6, rfl, b6, p6⟩
      have HP6 := Lib.hid p6
      have HB6 := Lib.hid (And.intro b6 (HB5.out.trans b6))
      obtain ⟨A6, c6, rfl, -⟩ := p6.form
      clear b6 p6
      generalize M.length = n6 at *
      go_wp2_with fail
      refine (HSame.out _ _ _ HP6.out (by rw [← hMl]; exact HB4.out.2.2.1.later HB6.out.2)).mono ?_
      rintro e w9 ⟨rfl, b9⟩
      have HB9 := Lib.hid (HB6.out.2.trans b9)
      clear b9
      go_wp2_with fail
      refine (flives _).mono ?_
      rintro e w11 ⟨rfl, b11⟩
      have HB11 := Lib.hid (HB4.out.1.trans (HB9.out.trans b11))
      clear b11
      go_wp2_with fail
      go_ret
      exact ⟨rfl, HB11.out⟩
end Go.Proofs.YtiicaldnegcdiaaGreat
