/- text: TextSnaps and TextNone, walked. -/
import Derived.Test.YtdhgombgbjldgaaDoorTxtV
namespace Go.Proofs.YtdhgombgbjldgaaDoor
set_option linter.unusedSimpArgs false
set_option linter.unusedVariables false
set_option linter.unusedSectionVars false
open Go.RowKit

set_option maxRecDepth 100000 in
set_option maxHeartbeats 3200000 in
theorem textSnaps_any (w : World) (v lv : Value) (b : List Int) (l : List AM) (x : Int) (hb : RN .u8 w v b) (hby : Bytes b) (hv : RAct w lv l) (r1 : I64r x) (hg : GlobU w) :
    Calls Tryd.prog 5 #[v, lv, .int .i64 x] w fun e w' => e = .returned (.bool true) ∧ AnyLater w w' := by
  have HMd := Lib.hid (tmade_any w v lv b l hb hby hv)
  obtain ⟨Ab, capb, rfl, -⟩ := hb.form
  obtain ⟨Av, capv, rfl, -, -⟩ := hv
  have HV := Lib.hid tlives
  have HG := Lib.hid hg
  obtain ⟨xl, xh⟩ := r1
  clear hb hby hg
  generalize b.length = nb at *
  generalize l.length = nl at *
  go_enter Tryd.func5, Tryd.ntmps5
  go_wp2_with fail
  refine HMd.out.mono ?_
  rintro e w2 ⟨tg, g, xb, rfl, b2, t, L, h2, ok, hbs, hxb, hby, hlen⟩
  obtain ⟨Ax, capx, ex, -⟩ := RT.form hxb
  obtain ⟨s, hs⟩ := snapP_ex hby x
  obtain ⟨n, hn⟩ : ∃ n, NextP L x n := by
    by_cases h : x < 0
    · exact ⟨0, .inl ⟨h, rfl⟩⟩
    · exact ⟨_, next_near x s (by omega) hs⟩
  obtain ⟨p, hp⟩ : ∃ p, PrevP L x p := by
    by_cases h : x ≤ 0
    · exact ⟨0, .inl ⟨h, rfl⟩⟩
    · obtain ⟨p, hp⟩ := snapP_ex hby (x - 1)
      exact ⟨p, .inr ⟨by omega, hp⟩⟩
  have H1 := Lib.hid (fun (w' : World) (a : AnyLater w2 w') => tsnap_any _ t _ L x s w' hs hbs (h2.later a).tl ok hby (HG.out.later (b2.trans a)))
  have H3 := Lib.hid (fun (w' : World) (a : AnyLater w2 w') => tnext_any _ t _ L x n w' hn hbs (h2.later a).tl ok hby (HG.out.later (b2.trans a)))
  have H5 := Lib.hid (fun (w' : World) (a : AnyLater w2 w') => tprev_any _ t _ L x p w' hp hbs (h2.later a).tl ok hby (HG.out.later (b2.trans a)) xh)
  have H2 := Lib.hid (fun (w' : World) (a : AnyLater w2 w') => xsnap_any xb L x s w' hs (hxb.rn.later a) hby hlen)
  have H4 := Lib.hid (fun (w' : World) (a : AnyLater w2 w') => xnext_any xb L x n w' hn (hxb.rn.later a) hby hlen)
  have H6 := Lib.hid (fun (w' : World) (a : AnyLater w2 w') => xprev_any xb L x p w' hp (hxb.rn.later a) hby hlen xh)
  have HB2 := Lib.hid b2
  subst ex
  clear h2 ok hbs hxb hby hlen hs hn hp b2
  generalize L.length = nL at *
  go_wp2_with fail
  refine (H1.out _ (AnyLater.refl _)).mono ?_
  rintro e w3 ⟨rfl, b3⟩
  have B3 := Lib.hid b3
  clear b3
  go_wp2_with fail
  refine (H2.out _ B3.out).mono ?_
  rintro e w4 ⟨rfl, b4⟩
  have B4 := Lib.hid (B3.out.trans b4)
  clear b4
  go_wp2_with fail
  refine (H3.out _ B4.out).mono ?_
  rintro e w5 ⟨rfl, b5⟩
  have B5 := Lib.hid (B4.out.trans b5)
  clear b5
  go_wp2_with fail
  refine (H4.out _ B5.out).mono ?_
  rintro e w6 ⟨rfl, b6⟩
  have B6 := Lib.hid (B5.out.trans b6)
  clear b6
  go_wp2_with fail
  refine (H5.out _ B6.out).mono ?_
  rintro e w7 ⟨rfl, b7⟩
  have B7 := Lib.hid (B6.out.trans b7)
  clear b7
  go_wp2_with fail
  refine (H6.out _ B7.out).mono ?_
  rintro e w8 ⟨rfl, b8⟩
  have B8 := Lib.hid (B7.out.trans b8)
  clear b8
  go_wp2_with fail
  refine (HV.out _).mono ?_
  rintro e w9 ⟨rfl, b9⟩
  have B9 := Lib.hid (HB2.out.trans (B8.out.trans b9))
  clear b9
  go_wp2_with fail
  go_ret
  exact ⟨rfl, B9.out⟩
theorem snap0 (x : Int) : SnapP [] x 0 := by
  by_cases h : x < 0
  · exact .inl ⟨h, rfl⟩
  · exact .inr (.inl ⟨by simp; omega, rfl⟩)
theorem next0 (x : Int) : NextP [] x 0 := by
  by_cases h : x < 0
  · exact .inl ⟨h, rfl⟩
  · exact .inr (.inl ⟨by simp; omega, rfl⟩)
theorem prev0 (x : Int) : PrevP [] x 0 := by
  by_cases h : x ≤ 0
  · exact .inl ⟨h, rfl⟩
  · exact .inr ⟨by omega, snap0 _⟩
set_option maxRecDepth 100000 in
set_option maxHeartbeats 3200000 in
theorem textNone_any (w : World) (x : Int) (r1 : I64r x) (hg : GlobU w) :
    Calls Tryd.prog 6 #[.int .i64 x] w fun e w' => e = .returned (.bool true) ∧ AnyLater w w' := by
  have hN : ∀ w', IsTL w' (.pointer none) .nil 0 := fun w' => .inl ⟨rfl, rfl, rfl⟩
  have ok : Tr.nil.Ok := ⟨trivial, trivial, Nat.zero_le _⟩
  obtain ⟨xl, xh⟩ := r1
  have HPl := Lib.hid (fun w' => tplace_nil x w')
  have HOf := Lib.hid (fun w' => toffset_no _ .nil 0 x 0 w' (hN w') ok (by omega))
  have HSt := Lib.hid (fun w' => tstart_no _ .nil 0 x w' (hN w') ok (by omega))
  have HDl := Lib.hid (fun w' => tdel_nil 0 0 w')
  have HIn := Lib.hid (fun w' => tins_nil 0 (.slice none 0 0) w')
  have HLs := Lib.hid (fun w' => tlines_none w')
  have HLe : Hid (∀ w', Calls Tryd.prog 31 #[.pointer none] w' fun e w'' => e = .returned (.int .i64 0) ∧ AnyLater w' w'') := Lib.hid (fun w' => tlen_any _ .nil 0 w' (hN w'))
  have HAl : Hid (∀ w', Calls Tryd.prog 32 #[.pointer none] w' (Ans (isB []) w')) := Lib.hid (fun w' => tall_any _ .nil 0 w' (hN w') ok)
  have HLi := Lib.hid (fun w' => tline_no _ .nil 0 0 w' (hN w') ok (by omega))
  have hb0 : Bytes [] := fun c hc => by cases hc
  have HSn := Lib.hid (fun (w' : World) (a : AnyLater w w') => tsnap_any _ .nil 0 [] x 0 w' (snap0 x) rfl (hN w') ok hb0 (hg.later a))
  have HNx := Lib.hid (fun (w' : World) (a : AnyLater w w') => tnext_any _ .nil 0 [] x 0 w' (next0 x) rfl (hN w') ok hb0 (hg.later a))
  have HPr := Lib.hid (fun (w' : World) (a : AnyLater w w') => tprev_any _ .nil 0 [] x 0 w' (prev0 x) rfl (hN w') ok hb0 (hg.later a) xh)
  have HV := Lib.hid tlives
  clear hN ok hg hb0
  go_enter Tryd.func6, Tryd.ntmps6
  go_wp2_with fail
  refine (HPl.out _).mono ?_
  rintro e w2 ⟨rfl, b_w2⟩
  have z_w2 := b_w2.below.size
  have a_w2 := b_w2
  go_wp2_with fail
  refine (HOf.out _).mono ?_
  rintro e w3 ⟨rfl, b_w3⟩
  have z_w3 := b_w3.below.size
  have a_w3 := a_w2.trans b_w3
  go_wp2_with fail
  refine (HSt.out _).mono ?_
  rintro e w4 ⟨rfl, b_w4⟩
  have z_w4 := b_w4.below.size
  have a_w4 := a_w3.trans b_w4
  go_wp2_with fail
  refine (HDl.out _).mono ?_
  rintro e w5 ⟨rfl, b_w5⟩
  have z_w5 := b_w5.below.size
  have a_w5 := a_w4.trans b_w5
  go_wp2_with fail
  refine (HIn.out _).mono ?_
  rintro e w6 ⟨rfl, b_w6⟩
  have z_w6 := b_w6.below.size
  have a_w6 := a_w5.trans b_w6
  go_wp2_with fail
  refine (HLs.out _).mono ?_
  rintro e w7 ⟨rfl, b_w7⟩
  have z_w7 := b_w7.below.size
  have a_w7 := a_w6.trans b_w7
  go_wp2_with fail
  refine (HLe.out _).mono ?_
  rintro e w8 ⟨rfl, b_w8⟩
  have z_w8 := b_w8.below.size
  have a_w8 := a_w7.trans b_w8
  go_wp2_with fail
  refine (HAl.out _).mono ?_
  rintro e w9 ⟨u9, rfl, b_w9, hu⟩
  have z_w9 := b_w9.below.size
  have a_w9 := a_w8.trans b_w9
  obtain ⟨A9, cap9, rfl, -⟩ := isB.form hu
  clear hu
  simp only [List.length_nil]
  go_wp2_with fail
  refine (HLi.out _).mono ?_
  rintro e wa ⟨ua, rfl, b_wa, hu⟩
  have z_wa := b_wa.below.size
  have a_wa := a_w9.trans b_wa
  obtain ⟨Aa, capa, rfl, -⟩ := isB.form hu
  clear hu
  simp only [List.length_nil]
  go_wp2_with fail
  refine (HSn.out _ a_wa).mono ?_
  rintro e wb ⟨rfl, b_wb⟩
  have z_wb := b_wb.below.size
  have a_wb := a_wa.trans b_wb
  go_wp2_with fail
  refine (HNx.out _ a_wb).mono ?_
  rintro e wc ⟨rfl, b_wc⟩
  have z_wc := b_wc.below.size
  have a_wc := a_wb.trans b_wc
  go_wp2_with fail
  refine (HPr.out _ a_wc).mono ?_
  rintro e wd ⟨rfl, b_wd⟩
  have z_wd := b_wd.below.size
  have a_wd := a_wc.trans b_wd
  go_wp2_with fail
  refine (HV.out _).mono ?_
  rintro e we ⟨rfl, b_we⟩
  have z_we := b_we.below.size
  have a_we := a_wd.trans b_we
  go_wp2_with fail
  go_ret
  exact ⟨rfl, a_we⟩
end Go.Proofs.YtdhgombgbjldgaaDoor
