/- shade: ShadeStyles, walked. -/
import Derived.Test.YthhaacekfgdoeaaDoorShdK
import Derived.Test.YthhaacekfgdoeaaDoorShdA
import Derived.Test.YthhaacekfgdoeaaDoorShdI
namespace Go.Proofs.YthhaacekfgdoeaaDoor
set_option linter.unusedSimpArgs false
set_option linter.unusedVariables false
set_option linter.unusedSectionVars false
open Go.RowKit

/-- what the program's functions of styles are to tell -/
structure SSty : Prop extends SLow where
  face : ∀ {w : World} (s n : Int), faceS s = n → I64s s → Calls Tryd.prog 7 #[.int .i64 s] w fun e w' => e = .returned (.int .i64 n) ∧ AnyLater w w'
  ink : ∀ {w : World} (s n : Int), GlobI w → inkS s = n → I64s s → Calls Tryd.prog 9 #[.int .i64 s] w fun e w' => e = .returned (.int .u32 n) ∧ AnyLater w w'
  styleY : ∀ {w : World} (f i : Int), mayS f i = true → Calls Tryd.prog 4 #[.int .i64 f, .int .i64 i] w fun e w' => e = .returned (.tuple #[.int .i64 (3 * i + f), .bool true]) ∧ AnyLater w w'
  styleN : ∀ {w : World} (f i : Int), mayS f i = false → I64s f → I64s i → Calls Tryd.prog 4 #[.int .i64 f, .int .i64 i] w fun e w' => e = .returned (.tuple #[.int .i64 0, .bool false]) ∧ AnyLater w w'
theorem faceS_style {f i : Int} (h : mayS f i = true) : goodS (3 * i + f) = true ∧ faceS (3 * i + f) = f ∧ (3 * i + f) / 3 = i ∧ 0 ≤ 3 * i + f ∧ 3 * i + f < 24 := by
  have hm := of_decide_eq_true h
  have hg : goodS (3 * i + f) = true := decide_eq_true (by omega)
  refine ⟨hg, ?_, by omega, by omega, by omega⟩
  unfold faceS
  rw [hg, if_pos rfl]
  omega
set_option maxRecDepth 100000 in
set_option maxHeartbeats 3200000 in
theorem shadeStyles_any (T : SSty) (W : World) (s f i : Int) (hs : I64s s) (hf : I64s f) (hi : I64s i) (hg : GlobI W) : Calls Tryd.prog 3 #[.int .i64 s, .int .i64 f, .int .i64 i] W fun e w' => e = .returned (.bool true) ∧ AnyLater W w' := by
  have HLv := Lib.hid (fun w => slives_any T.toSLow w)
  obtain ⟨gd, hgd⟩ : ∃ c, goodS s = c := ⟨_, rfl⟩
  obtain ⟨fc, hfc⟩ : ∃ c, faceS s = c := ⟨_, rfl⟩
  obtain ⟨ik, hik⟩ : ∃ c, inkS s = c := ⟨_, rfl⟩
  have G1 := Lib.hid (fun (w : World) => T.good (w := w) s gd hgd hs)
  have G2 := Lib.hid (fun (w : World) => refGoodS_any s w gd hgd hs)
  have F1 := Lib.hid (fun (w : World) => T.face (w := w) s fc hfc hs)
  have F2 := Lib.hid (fun (w : World) => refFaceS_any s w fc hfc hs)
  have I1 := Lib.hid (fun (w : World) (h : AnyLater W w) => T.ink (w := w) s ik (hg.later h) hik hs)
  have I2 := Lib.hid (fun (w : World) => refInkS_any s w ik hik hs)
  obtain ⟨s1, s2⟩ := hs
  rcases hm : mayS f i
  · have HS := Lib.hid (fun (w : World) => T.styleN (w := w) f i hm hf hi)
    have hn := of_decide_eq_false hm
    obtain ⟨f1, f2⟩ := hf
    obtain ⟨i1, i2⟩ := hi
    have q : f < 0 ∨ (0 ≤ f ∧ 2 < f) ∨ (0 ≤ f ∧ f ≤ 2 ∧ i < 0) ∨ (0 ≤ f ∧ f ≤ 2 ∧ 0 ≤ i ∧ 7 < i) := by omega
    clear T hgd hfc hik hm hn hg
    go_enter Tryd.func3, Tryd.ntmps3
    go_wp2_with fail
    refine (HS.out _).mono ?_
    rintro e w1 ⟨rfl, b1⟩
    have H1 := Lib.hid b1
    clear b1
    go_upto_region 2 with fail
    go_cut [9] (fun v wx => v = .bool false ∧ wx = w1)
    case first =>
      rcases q with q | ⟨q, q'⟩ | ⟨q, q', q''⟩ | ⟨q, q', q'', q3⟩
      all_goals
        go_wp2_with fail
        go_meet
        case rel => exact ⟨by first | rfl | (simp; omega), rfl⟩
    case rest =>
      obtain ⟨rfl, hw⟩ := hcut
      subst hw
      clear q
      go_wp2_with fail
      refine (G1.out _).mono ?_
      rintro e w2 ⟨rfl, b2⟩
      have H2 := Lib.hid (H1.out.trans b2)
      clear b2
      go_wp2_with fail
      refine (G2.out _).mono ?_
      rintro e w3 ⟨rfl, rfl⟩
      go_wp2_with fail
      refine (F1.out _).mono ?_
      rintro e w4 ⟨rfl, b4⟩
      have H4 := Lib.hid (H2.out.trans b4)
      clear b4
      go_wp2_with fail
      refine (F2.out _).mono ?_
      rintro e w5 ⟨rfl, rfl⟩
      go_wp2_with fail
      refine (I1.out _ H4.out).mono ?_
      rintro e w6 ⟨rfl, b6⟩
      have H6 := Lib.hid (H4.out.trans b6)
      clear b6
      go_wp2_with fail
      refine (I2.out _).mono ?_
      rintro e w7 ⟨rfl, b7⟩
      have H7 := Lib.hid (H6.out.trans b7)
      clear b7
      go_wp2_with fail
      refine (HLv.out _).mono ?_
      rintro e w8 ⟨rfl, b8⟩
      have H8 := Lib.hid (H7.out.trans b8)
      clear b8
      go_wp2_with fail
      go_ret
      exact ⟨rfl, H8.out⟩
  · have HS := Lib.hid (fun (w : World) => T.styleY (w := w) f i hm)
    obtain ⟨g1, g2, g3, g4, g5⟩ := faceS_style hm
    have F3 := Lib.hid (fun (w : World) => T.face (w := w) (3 * i + f) f g2 ⟨by omega, by omega⟩)
    have G3 := Lib.hid (fun (w : World) => T.good (w := w) (3 * i + f) true g1 ⟨by omega, by omega⟩)
    obtain ⟨m1, m2, m3, m4⟩ := of_decide_eq_true hm
    obtain ⟨st, hst⟩ : ∃ z, 3 * i + f = z := ⟨_, rfl⟩
    rw [hst] at HS F3 G3 g3 g4 g5
    clear T hgd hfc hik hm g1 g2 hst hg
    go_enter Tryd.func3, Tryd.ntmps3
    go_wp2_with fail
    refine (HS.out _).mono ?_
    rintro e w1 ⟨rfl, b1⟩
    have H1 := Lib.hid b1
    clear b1
    go_wp2_with fail
    refine (G1.out _).mono ?_
    rintro e w2 ⟨rfl, b2⟩
    have H2 := Lib.hid (H1.out.trans b2)
    clear b2
    go_wp2_with fail
    refine (G2.out _).mono ?_
    rintro e w3 ⟨rfl, rfl⟩
    go_wp2_with fail
    refine (F1.out _).mono ?_
    rintro e w4 ⟨rfl, b4⟩
    have H4 := Lib.hid (H2.out.trans b4)
    clear b4
    go_wp2_with fail
    refine (F2.out _).mono ?_
    rintro e w5 ⟨rfl, rfl⟩
    go_wp2_with fail
    refine (I1.out _ H4.out).mono ?_
    rintro e w6 ⟨rfl, b6⟩
    have H6 := Lib.hid (H4.out.trans b6)
    clear b6
    go_wp2_with fail
    refine (I2.out _).mono ?_
    rintro e w7 ⟨rfl, b7⟩
    have H7 := Lib.hid (H6.out.trans b7)
    clear b7
    go_wp2_with fail
    refine (F3.out _).mono ?_
    rintro e w8 ⟨rfl, b8⟩
    have H8 := Lib.hid (H7.out.trans b8)
    clear b8
    go_wp2_with fail
    refine (G3.out _).mono ?_
    rintro e w9 ⟨rfl, b9⟩
    have H9 := Lib.hid (H8.out.trans b9)
    clear b9
    go_wp2_with fail
    refine (HLv.out _).mono ?_
    rintro e wa ⟨rfl, ba⟩
    have Ha := Lib.hid (H9.out.trans ba)
    clear ba
    go_wp2_with fail
    go_ret
    exact ⟨rfl, Ha.out⟩
end Go.Proofs.YthhaacekfgdoeaaDoor
