/- wrap: WrapRows, WrapWide, walked. -/
import Derived.Test.YtcbcbblclpongaaWrpD
import Derived.Test.YtcbcbblclpongaaWrpE
import Derived.BigGuardPart
namespace Go.Proofs.Ytcbcbblclpongaa
set_option linter.unusedSimpArgs false
set_option linter.unusedVariables false
set_option linter.unusedSectionVars false
open Go.RowKit

theorem WCelsOk.take {l : Cels} (h : CelsOk l) (n : Nat) : CelsOk (l.take n) := fun c hc => h c (List.mem_of_mem_take hc)
set_option maxRecDepth 100000 in
set_option maxHeartbeats 1600000 in
theorem wrapRows_any (W : World) (v : Value) (l : Cels) (x : Int) (hv : FR celF W v l) (hN : CelsOk l) (hx : I64s x) : Calls Try.prog 3 #[v, .int .i64 x] W fun e w' => e = .returned (.bool true) ∧ AnyLater W w' := by
  have HF0 := Lib.hid (cfew_any v l W hv)
  obtain ⟨m, hm⟩ : ∃ m, l.take 60 = m := ⟨_, rfl⟩
  rw [hm] at HF0
  have hml : m.length ≤ 60 := by rw [← hm, List.length_take]; omega
  have hNm : CelsOk m := by rw [← hm]; exact WCelsOk.take hN 60
  have HF := Lib.hid (fun w u (h : FR celF w u m) => cfew_any u m w h)
  rw [List.take_of_length_le hml] at HF
  have HR := Lib.hid (fun w u (h : FR celF w u m) => wrows_any u m x w h hNm (by omega) hx)
  have HX := Lib.hid (fun w u (h : FR celF w u m) => xrows_any u m x w h hNm (by omega) hx)
  have HG := Lib.hid (fun w u u2 (h : FR celF w u m) k => wgood_yes u u2 m x w h hNm (by omega) hx k)
  have hrl := rowsW_len m x
  generalize rowsW m x = rs at *
  have HC := Lib.hid (fun (w : World) u (h : FR rowF w u rs) => copyF rowFT h (by omega))
  have HS := Lib.hid (fun w u u2 (h : FR rowF w u rs) (k : FR rowF w u2 rs) => wsame_yes u u2 rs w h k (by omega))
  have HL := Lib.hid (fun w => wlives_any w)
  obtain ⟨A, cap, rfl, -⟩ := hv.form
  generalize l.length = n at *
  obtain ⟨hx1, hx2⟩ := hx
  clear hv hN hNm hm
  go_enter Try.func3, Try.ntmps3
  go_wp2_with fail
  refine HF0.out.mono ?_
  rintro e w1 ⟨u1, rfl, b1, o1⟩
  have H1 := Lib.hid (And.intro b1 o1.fr)
  clear b1 o1
  go_wp2_with fail
  refine (HF.out _ _ H1.out.2).mono ?_
  rintro e w2 ⟨u2, rfl, b2, o2⟩
  have H2 := Lib.hid (And.intro (H1.out.1.trans b2) (And.intro (H1.out.2.later b2) o2.fr))
  clear b2 o2
  go_wp2_with fail
  refine (HR.out _ _ H2.out.2.2).mono ?_
  rintro e w3 ⟨u3, rfl, b3, o3⟩
  have H3 := Lib.hid (And.intro (H2.out.1.trans b3) (And.intro (H2.out.2.1.later b3) o3.fr))
  clear b3 o3
  go_wp2_with fail
  refine (HX.out _ _ H3.out.2.1).mono ?_
  rintro e w4 ⟨u4, rfl, b4, o4⟩
  have H4 := Lib.hid (And.intro (H3.out.1.trans b4) (And.intro (H3.out.2.1.later b4) (And.intro (H3.out.2.2.later b4) o4.fr)))
  clear b4 o4
  go_wp2_with fail
  refine (HS.out _ _ _ H4.out.2.2.1 H4.out.2.2.2).mono ?_
  rintro e w5 ⟨rfl, b5⟩
  have H5 := Lib.hid (And.intro (H4.out.1.trans b5) (And.intro (H4.out.2.1.later b5) (H4.out.2.2.1.later b5)))
  clear b5
  go_wp2_with fail
  refine (HF.out _ _ H5.out.2.1).mono ?_
  rintro e w6 ⟨u6, rfl, b6, o6⟩
  have H6 := Lib.hid (And.intro (H5.out.1.trans b6) (And.intro o6.fr (H5.out.2.2.later b6)))
  clear b6 o6
  obtain ⟨u7, w7, k1, k2, k3⟩ := HC.out _ _ H6.out.2.2
  have K1 := Lib.hid k1
  have H7 := Lib.hid (And.intro (H6.out.1.trans k2) (And.intro (H6.out.2.1.later k2) k3.fr))
  clear k1 k2 k3
  go_wp2_with (at_builtin; refine wappend_met _ rfl _ _ _ _ rfl _ _ rfl rfl _ _ K1.out ?_)
  refine (HG.out _ _ _ H7.out.2.1 H7.out.2.2).mono ?_
  rintro e w8 ⟨rfl, b8⟩
  have H8 := Lib.hid (H7.out.1.trans b8)
  clear b8
  go_wp2_with fail
  refine (HL.out _).mono ?_
  rintro e w9 ⟨rfl, b9⟩
  have H9 := Lib.hid (H8.out.trans b9)
  clear b9
  go_wp2_with fail
  go_ret
  exact ⟨rfl, H9.out⟩
theorem wEnd_all {l : Cels} {x : Int} (h : 48 * l.length ≤ x) : ∀ k t, t + k = l.length → wStop l x 0 k t = l.length
  | 0, t, e => by simpa [wStop] using e
  | k + 1, t, e => by
    have b := wEnd_in l 0 (t + 1)
    unfold wStop
    rw [if_pos ⟨by omega, .inr (by omega)⟩]
    exact wEnd_all h k (t + 1) (by omega)
/-- a line that is no wider is one row -/
theorem rowsW_one {l : Cels} {x : Int} (h : 48 * l.length ≤ x) : rowsW l x = [(0, (l.length : Int), wEnd l 0 l.length)] := by
  have e : wNext l (max x 1) 0 = l.length := wNext_all (by rw [Nat.sub_zero]; exact wEnd_all (by omega) l.length 0 (by omega))
  unfold rowsW
  rw [wRows_succ, e, if_pos (Nat.le_refl _)]
  rfl
theorem wRows_few (l : Cels) (m : Int) : ∀ g f, f < l.length → (wRows l m g f).length ≤ l.length - f
  | 0, f, _ => Nat.zero_le _
  | g + 1, f, h => by
    have b := wNext_in (W := m) (Nat.le_of_lt h)
    rw [wRows_succ]
    split
    · simp; omega
    · have := wRows_few l m g (wNext l m f) (by omega)
      simp; omega
theorem rowsW_few (l : Cels) (x : Int) : 1 ≤ (rowsW l x).length ∧ (rowsW l x).length ≤ max l.length 1 := by
  refine ⟨by unfold rowsW; rw [wRows_succ]; simp, ?_⟩
  by_cases h : 0 < l.length
  · have := wRows_few l (max x 1) (l.length + 1) 0 h
    unfold rowsW; omega
  · have := wRows_len l (max x 1) (l.length + 1) 0
    unfold rowsW; omega
set_option maxRecDepth 100000 in
set_option maxHeartbeats 1600000 in
theorem wrapWide_any (W : World) (v : Value) (l : Cels) (x : Int) (hv : FR celF W v l) (hN : CelsOk l) (hx : I64s x) : Calls Try.prog 6 #[v, .int .i64 x] W fun e w' => e = .returned (.bool true) ∧ AnyLater W w' := by
  have HF0 := Lib.hid (cfew_any v l W hv)
  obtain ⟨m, hm⟩ : ∃ m, l.take 60 = m := ⟨_, rfl⟩
  rw [hm] at HF0
  have hml : m.length ≤ 60 := by rw [← hm, List.length_take]; omega
  have hNm : CelsOk m := by rw [← hm]; exact WCelsOk.take hN 60
  have HF := Lib.hid (fun w u (h : FR celF w u m) => cfew_any u m w h)
  rw [List.take_of_length_le hml] at HF
  have HR1 := Lib.hid (fun w u (h : FR celF w u m) => wrows_any u m 2880 w h hNm (by omega) (by constructor <;> omega))
  rw [rowsW_one (show 48 * (m.length : Int) ≤ 2880 by omega)] at HR1
  have HR2 := Lib.hid (fun w u (h : FR celF w u m) => wrows_any u m 1 w h hNm (by omega) (by constructor <;> omega))
  have HR3 := Lib.hid (fun w u (h : FR celF w u m) => wrows_any u m x w h hNm (by omega) hx)
  obtain ⟨p1, p2⟩ := rowsW_few m 1
  obtain ⟨q1, q2⟩ := rowsW_few m x
  generalize rowsW m x = rs at *
  generalize rowsW m 1 = rn at *
  have HL := Lib.hid (fun w => wlives_any w)
  obtain ⟨A, cap, rfl, -⟩ := hv.form
  generalize l.length = n at *
  obtain ⟨N, hNN⟩ : ∃ N, m.length = N := ⟨_, rfl⟩
  have HMN := Lib.hid hNN
  rw [hNN] at HR1 p2 q2 hml
  generalize wEnd m 0 N = z at *
  obtain ⟨r2, hr2⟩ : ∃ r, rn.length = r := ⟨_, rfl⟩
  obtain ⟨r3, hr3⟩ : ∃ r, rs.length = r := ⟨_, rfl⟩
  have HN2 := Lib.hid hr2
  have HN3 := Lib.hid hr3
  rw [hr2] at p1 p2
  rw [hr3] at q1 q2
  obtain ⟨hx1, hx2⟩ := hx
  clear hv hN hNm hm hNN hr2 hr3
  go_enter Try.func6, Try.ntmps6
  go_wp2_with fail
  refine HF0.out.mono ?_
  rintro e w1 ⟨u1, rfl, b1, o1⟩
  have H1 := Lib.hid (And.intro b1 o1.fr)
  obtain ⟨A1, c1, rfl, hc1⟩ := o1.form
  rw [HMN.out] at H1 hc1 ⊢
  clear b1 o1
  go_wp2_with fail
  refine (HF.out _ _ H1.out.2).mono ?_
  rintro e w2 ⟨u2, rfl, b2, o2⟩
  have H2 := Lib.hid (And.intro (H1.out.1.trans b2) (And.intro (H1.out.2.later b2) o2.fr))
  clear b2 o2
  go_wp2_with fail
  refine (HR1.out _ _ H2.out.2.2).mono ?_
  rintro e w3 ⟨u3, rfl, b3, o3⟩
  have H3 := Lib.hid (And.intro (H2.out.1.trans b3) (And.intro (H2.out.2.1.later b3) o3.fr))
  clear b3 o3
  go_wp2_with fail
  refine (HF.out _ _ H3.out.2.1).mono ?_
  rintro e w4 ⟨u4, rfl, b4, o4⟩
  have H4 := Lib.hid (And.intro (H3.out.1.trans b4) (And.intro (H3.out.2.1.later b4) (And.intro (H3.out.2.2.later b4) o4.fr)))
  clear b4 o4
  go_wp2_with fail
  refine (HR2.out _ _ H4.out.2.2.2).mono ?_
  rintro e w5 ⟨u5, rfl, b5, o5⟩
  have H5 := Lib.hid (And.intro (H4.out.1.trans b5) (And.intro (H4.out.2.1.later b5) (H4.out.2.2.1.later b5)))
  obtain ⟨A5, c5, rfl, hc5⟩ := o5.form
  rw [HN2.out] at hc5 ⊢
  clear b5 o5
  go_wp2_with fail
  refine (HF.out _ _ H5.out.2.1).mono ?_
  rintro e w6 ⟨u6, rfl, b6, o6⟩
  have H6 := Lib.hid (And.intro (H5.out.1.trans b6) (And.intro (H5.out.2.2.later b6) o6.fr))
  clear b6 o6
  go_wp2_with fail
  refine (HR3.out _ _ H6.out.2.2).mono ?_
  rintro e w7 ⟨u7, rfl, b7, o7⟩
  have H7 := Lib.hid (And.intro (H6.out.1.trans b7) (H6.out.2.1.later b7))
  obtain ⟨A7, c7, rfl, hc7⟩ := o7.form
  rw [HN3.out] at hc7 ⊢
  clear b7 o7
  have h7 := H7.out.2
  obtain ⟨A3, c3, rfl, hc3⟩ := h7.form
  obtain ⟨b, off, rfl, hb, d0, d1, d2⟩ := rowAt h7 0 (by simp)
  simp only [List.length_cons, List.length_nil, Nat.zero_add, Nat.reduceAdd, List.getElem_cons_zero, Nat.zero_mul, Nat.add_zero] at *
  clear h7
  have g1 : decide (1 ≤ (r3 : Int)) = true := decide_eq_true (by omega)
  by_cases hz : N = 0
  · subst hz
    have g2 : decide ((r3 : Int) ≤ 1) = true := decide_eq_true (by omega)
    have g3 : decide ((r2 : Int) ≤ 1) = true := decide_eq_true (by omega)
    go_wp2_with fail
    refine (HL.out _).mono ?_
    rintro e w9 ⟨rfl, b9⟩
    have H9 := Lib.hid (H7.out.1.trans b9)
    clear b9
    go_wp2_with fail
    go_ret
    exact ⟨rfl, H9.out⟩
  · have g2 : decide (r3 ≤ N) = true := decide_eq_true (by omega)
    have g3 : decide (r2 ≤ N) = true := decide_eq_true (by omega)
    have g4 : ((N : Int) == 0) = false := by simpa using hz
    go_wp2_with fail
    refine (HL.out _).mono ?_
    rintro e w9 ⟨rfl, b9⟩
    have H9 := Lib.hid (H7.out.1.trans b9)
    clear b9
    go_wp2_with fail
    go_ret
    exact ⟨rfl, H9.out⟩
end Go.Proofs.Ytcbcbblclpongaa
