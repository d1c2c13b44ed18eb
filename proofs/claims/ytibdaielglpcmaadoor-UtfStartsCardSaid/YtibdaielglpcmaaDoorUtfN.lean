/- utf: UtfStarts, walked. -/
import Derived.Test.YtibdaielglpcmaaDoorUtfL
namespace Go.Proofs.YtibdaielglpcmaaDoor
set_option linter.unusedSimpArgs false
set_option linter.unusedVariables false
set_option linter.unusedSectionVars false
open Go.RowKit

/-- what looking down from the end has found: the least of the places from t on that is above a -/
def DownP (m : List Int) (c : Nat) (a : Int) (t nx : Nat) : Prop := (∃ q, t ≤ q ∧ q ≤ c ∧ a < it m q ∧ (∀ q', t ≤ q' → q' < q → (it m q' : Int) ≤ a) ∧ nx = it m q) ∨ ((∀ q, t ≤ q → q ≤ c → (it m q : Int) ≤ a) ∧ nx = m.length)
/-- what looking up from the beginning has found: the greatest of the t first places that is not above a -/
def UpP (m : List Int) (c : Nat) (a : Int) (t sn : Nat) : Prop := (∃ q, q < t ∧ (it m q : Int) ≤ a ∧ (∀ q', q < q' → q' < t → a < it m q') ∧ sn = it m q) ∨ ((∀ q, q < t → a < it m q) ∧ sn = 0)
theorem DownP.above {m : List Int} {c : Nat} {a : Int} {t nx : Nat} (h : a < it m t) (ht : t ≤ c) : DownP m c a t (it m t) := .inl ⟨t, Nat.le_refl _, ht, h, fun q' h1 h2 => by omega, rfl⟩
theorem DownP.below {m : List Int} {c : Nat} {a : Int} {t nx : Nat} (hd : DownP m c a (t + 1) nx) (h : (it m t : Int) ≤ a) : DownP m c a t nx := by
  rcases hd with ⟨q, h1, h2, h3, h4, h5⟩ | ⟨h1, h2⟩
  · refine .inl ⟨q, by omega, h2, h3, fun q' k1 k2 => ?_, h5⟩
    by_cases e : q' = t
    · subst e; exact h
    · exact h4 q' (by omega) k2
  · refine .inr ⟨fun q k1 k2 => ?_, h2⟩
    by_cases e : q = t
    · subst e; exact h
    · exact h1 q (by omega) k2
theorem DownP.next {m : List Int} {c : Nat} {a : Int} {nx : Nat} (hc : Cnt m c) (hd : DownP m c a 0 nx) : NextP m a nx := by
  rcases hd with ⟨q, h1, h2, h3, h4, rfl⟩ | ⟨h1, h2⟩
  · cases q with
    | zero => exact .inl ⟨by simpa [it] using h3, rfl⟩
    | succ q => exact .inr (.inr ⟨q, h4 q (by omega) (by omega), h3, rfl⟩)
  · have := h1 c (by omega) (Nat.le_refl _)
    rw [hc.fin] at this
    exact .inr (.inl ⟨this, h2⟩)
theorem UpP.yes {m : List Int} {c : Nat} {a : Int} {t : Nat} (h : (it m t : Int) ≤ a) : UpP m c a (t + 1) (it m t) := .inl ⟨t, by omega, h, fun q' h1 h2 => by omega, rfl⟩
theorem UpP.no {m : List Int} {c : Nat} {a : Int} {t sn : Nat} (hd : UpP m c a t sn) (h : a < it m t) : UpP m c a (t + 1) sn := by
  rcases hd with ⟨q, h1, h2, h3, h4⟩ | ⟨h1, h2⟩
  · refine .inl ⟨q, by omega, h2, fun q' k1 k2 => ?_, h4⟩
    by_cases e : q' = t
    · subst e; exact h
    · exact h3 q' k1 (by omega)
  · refine .inr ⟨fun q k1 => ?_, h2⟩
    by_cases e : q = t
    · subst e; exact h
    · exact h1 q (by omega)
theorem UpP.snap {m : List Int} {c : Nat} {a : Int} {sn : Nat} (hc : Cnt m c) (hd : UpP m c a (c + 1) sn) : SnapP m a sn := by
  rcases hd with ⟨q, h1, h2, h3, rfl⟩ | ⟨h1, rfl⟩
  · by_cases e : q = c
    · subst e
      rw [hc.fin] at h2 ⊢
      exact .inr (.inl ⟨h2, rfl⟩)
    · exact .inr (.inr ⟨q, h2, h3 (q + 1) (by omega) (by omega), rfl⟩)
  · exact .inl ⟨by have := h1 0 (by omega); simpa [it] using this, rfl⟩
set_option maxRecDepth 100000 in
set_option maxHeartbeats 3200000 in
theorem utfStarts_any (W : World) (v : Value) (l : List Int) (a : Int) (hv : RU8 W v l) (hb : Bytes l) (hg : GlobU W) (ha : -9223372036854775808 ≤ a ∧ a ≤ 9223372036854775807) : Calls Tryd.prog 5 #[v, .int .i64 a] W fun e w' => e = .returned (.bool true) ∧ AnyLater W w' := by
  have HG := Lib.hid hg
  have HAA := Lib.hid ha
  have HF := Lib.hid (few8_any v l 60 W hv (by omega))
  obtain ⟨A, cap, rfl, hcap⟩ := hv.form
  have HB := Lib.hid (hb.take 60)
  have hl60 : (l.take 60).length ≤ 60 := by rw [List.length_take]; omega
  generalize l.take 60 = m at *
  generalize l.length = n0 at *
  obtain ⟨c, hc, hcl⟩ := cnt_ex HB.out
  have HC := Lib.hid hc
  have HIL := Lib.hid (fun j => it_le HB.out j)
  obtain ⟨n, hn⟩ : ∃ n, m.length = n := ⟨_, rfl⟩
  have HN := Lib.hid hn
  rw [hn] at hl60 hcl HIL
  obtain ⟨a1', a2'⟩ := ha
  clear hg hv hb hc hn
  go_enter Tryd.func5, Tryd.ntmps5
  go_wp2_with fail
  refine HF.out.mono ?_
  rintro e w1 ⟨u1, rfl, a1, o1⟩
  have HA1 := Lib.hid a1
  have HR1 := Lib.hid o1.rn
  obtain ⟨A1, c1, rfl, h1⟩ := o1.form
  rw [HN.out] at HR1 h1 ⊢
  have HS1 := Lib.hid (refStarts_any _ m c w1 HR1.out HB.out (by rw [HN.out]; omega) HC.out)
  clear o1 a1
  go_wp2_with fail
  refine HS1.out.mono ?_
  rintro e w2 ⟨s5, rfl, a2, o2⟩
  have HA2 := Lib.hid (HA1.out.trans a2)
  have H12 := Lib.hid a2
  have HRI := Lib.hid o2.rn
  obtain ⟨A5, c5, rfl, h5⟩ := o2.form
  rw [stU_len] at HRI h5 ⊢
  obtain ⟨u2, w3, k1, k2, k3⟩ := copy8 (HR1.out.later H12.out) (by rw [HN.out]; omega)
  have K1 := Lib.hid k1
  have H23 := Lib.hid k2
  have HA3 := Lib.hid (HA2.out.trans k2)
  have HS := Lib.hid (starts_any u2 m c w3 k3.rn HB.out (by rw [HN.out]; omega) (HG.out.later HA3.out) HC.out)
  clear o2 a2 k1 k2 k3
  go_wp2_with (at_builtin; refine Lib.wpList_append_run _ rfl _ _ _ _ rfl _ _ rfl rfl _ _ K1.out ?_)
  refine HS.out.mono ?_
  rintro e w4 ⟨u4, rfl, b4, o4⟩
  have H24 := Lib.hid (H23.out.trans b4)
  have HA4 := Lib.hid (HA3.out.trans b4)
  have HI4 := Lib.hid (ints_any _ _ (stU m c) (stU m c) w4 true (decide_eq_true rfl) o4.rn (HRI.out.later H24.out) (by rw [stU_len]; omega) (by rw [stU_len]; omega))
  obtain ⟨A4, c4, rfl, h4⟩ := o4.form
  rw [stU_len] at HI4 h4 ⊢
  clear b4 o4
  go_wp2_with fail
  refine HI4.out.mono ?_
  rintro e w5 ⟨rfl, b5⟩
  have H25 := Lib.hid (H24.out.trans b5)
  have HA5 := Lib.hid (HA4.out.trans b5)
  obtain ⟨u6, w6, q1, q2, q3⟩ := copy8 (HR1.out.later (H12.out.trans H25.out)) (by rw [HN.out]; omega)
  have K2 := Lib.hid q1
  have H26 := Lib.hid (H25.out.trans q2)
  have HA6 := Lib.hid (HA5.out.trans q2)
  have HCt := Lib.hid (count_any u6 m c w6 q3.rn HB.out (by rw [HN.out]; omega) (HG.out.later HA6.out) HC.out)
  clear b5 q1 q2 q3
  go_wp2_with (at_builtin; refine wpList_append_met _ rfl _ _ _ _ rfl _ _ rfl rfl _ _ K2.out ?_)
  refine HCt.out.mono ?_
  rintro e w7 ⟨rfl, b7⟩
  have H27 := Lib.hid (H26.out.trans b7)
  have HA7 := Lib.hid (HA6.out.trans b7)
  clear b7
  obtain ⟨A6, c6, e6, _, hcell⟩ := HRI.out
  have hsl := stU_len m c
  obtain ⟨b, off, rfl, hbl, hcj⟩ := hcell (by omega)
  obtain ⟨rfl, rfl⟩ : A5 = some ⟨b, off, none⟩ ∧ c5 = c6 := by simp only [Value.slice.injEq] at e6; exact ⟨e6.1, e6.2.2⟩
  have HCJ : Hid (∀ w', AnyLater w2 w' → ∀ j, j ≤ c → w'.cell? ⟨b, off + j, none⟩ = some (.int .i64 (it m j))) := Lib.hid (fun w' h j hj => by
    have h6 : j < (stU m c).length := by rw [stU_len]; omega
    rw [h.below.cell hbl, hcj j h6, stU_get])
  clear hcell e6 hcj hsl
  go_wp2_with fail
  go_loopg [7, 8] (c + 1) (fun kk nv iv wr => AnyLater w7 wr ∧ ∃ t nx : Nat, kk = t ∧ t ≤ c + 1 ∧ iv = .int .i64 ((t : Int) - 1) ∧ nv = .int .i64 nx ∧ DownP m c a t nx)
  case atStart => exact ⟨AnyLater.refl _, c + 1, n, rfl, Nat.le_refl _, by go_num, rfl, .inr ⟨fun q h1 h2 => by omega, HN.out.symm⟩⟩
  case round =>
    obtain ⟨a_wr, t, nx, hk, ht, rfl, rfl, hd⟩ := hrel
    have HAr := Lib.hid a_wr
    have HDn := Lib.hid hd
    clear hd
    by_cases ht0 : t = 0
    · subst ht0
      have HNx := Lib.hid (HDn.out.next HC.out)
      clear a_wr
      go_wp2_with fail
      go_loopg [6, 9] (c + 1) (fun kk sv iv wr2 => AnyLater w7 wr2 ∧ ∃ t sn : Nat, kk = c + 1 - t ∧ t ≤ c + 1 ∧ iv = .int .i64 t ∧ sv = .int .i64 sn ∧ UpP m c a t sn)
      case atStart => exact ⟨HAr.out, 0, 0, by omega, by omega, rfl, rfl, .inr ⟨fun q h1 => by omega, rfl⟩⟩
      case round =>
        obtain ⟨a_wr, t, sn, hk, ht, rfl, rfl, hu⟩ := hrel
        have HA8 := Lib.hid a_wr
        have HUp := Lib.hid hu
        clear hu
        by_cases htc : t ≤ c
        · have cc := HCJ.out wr (H27.out.trans a_wr) t htc
          have hil := HIL.out t
          have HY : Hid ((it m t : Int) ≤ a → UpP m c a (t + 1) (it m t)) := Lib.hid (fun h => UpP.yes h)
          have HNo : Hid (a < it m t → UpP m c a (t + 1) sn) := Lib.hid (fun h => HUp.out.no h)
          generalize it m t = p at *
          clear a_wr
          by_cases q : (p : Int) ≤ a
          · have HZ := Lib.hid (HY.out q)
            go_wp2_with fail
            go_roundg (c + 1 - (t + 1))
            case measure => omega
            case rel => exact ⟨HA8.out, t + 1, p, rfl, by omega, by go_num, rfl, HZ.out⟩
          · have HZ := Lib.hid (HNo.out (by omega))
            go_wp2_with fail
            go_roundg (c + 1 - (t + 1))
            case measure => omega
            case rel => exact ⟨HA8.out, t + 1, sn, rfl, by omega, by go_num, rfl, HZ.out⟩
        · obtain rfl : t = c + 1 := by omega
          have HSp := Lib.hid (HUp.out.snap HC.out)
          obtain ⟨u8, w8, k1, k2, k3⟩ := copy8 (HR1.out.later (H12.out.trans (H27.out.trans a_wr))) (by rw [HN.out]; omega)
          have K3 := Lib.hid k1
          have H28 := Lib.hid ((H27.out.trans a_wr).trans k2)
          have HA8 := Lib.hid ((HA7.out.trans a_wr).trans k2)
          have HSc := Lib.hid (snap_any u8 m a sn w8 HSp.out k3.rn HB.out (by rw [HN.out]; omega) (HG.out.later HA8.out) HAA.out)
          clear k1 k2 k3 a_wr
          go_wp2_with (at_builtin; refine Lib.wpList_append_run _ rfl _ _ _ _ rfl _ _ rfl rfl _ _ K3.out ?_)
          refine HSc.out.mono ?_
          rintro e w9 ⟨rfl, b9⟩
          have H29 := Lib.hid (H28.out.trans b9)
          have HA9 := Lib.hid (HA8.out.trans b9)
          clear b9
          obtain ⟨ua, wa, k1, k2, k3⟩ := copy8 (HR1.out.later (H12.out.trans H29.out)) (by rw [HN.out]; omega)
          have K4 := Lib.hid k1
          have HAa := Lib.hid (HA9.out.trans k2)
          have HNc := Lib.hid (next_any ua m a nx wa HNx.out k3.rn HB.out (by rw [HN.out]; omega) (HG.out.later HAa.out) HAA.out)
          clear k1 k2 k3
          go_wp2_with (at_builtin; refine wpList_append_met _ rfl _ _ _ _ rfl _ _ rfl rfl _ _ K4.out ?_)
          refine HNc.out.mono ?_
          rintro e wb ⟨rfl, bb⟩
          have HAb := Lib.hid (HAa.out.trans bb)
          have HLv := Lib.hid (ulives_any wb (HG.out.later HAb.out))
          clear bb
          go_wp2_with fail
          refine HLv.out.mono ?_
          rintro e wc ⟨rfl, bc⟩
          have HAc := Lib.hid (HAb.out.trans bc)
          clear bc
          go_wp2_with fail
          go_ret
          exact ⟨rfl, HAc.out⟩
    · obtain ⟨s, rfl⟩ : ∃ s, t = s + 1 := ⟨t - 1, by omega⟩
      have cc := HCJ.out wr (H27.out.trans a_wr) s (by omega)
      have hil := HIL.out s
      have HY : Hid (a < it m s → DownP m c a s (it m s)) := Lib.hid (fun h => DownP.above (nx := 0) h (by omega))
      have HNo : Hid ((it m s : Int) ≤ a → DownP m c a s nx) := Lib.hid (fun h => HDn.out.below h)
      have e1 : ((s + 1 : Nat) : Int) - 1 = (s : Int) := by omega
      rw [e1]
      clear e1 a_wr ht0
      generalize it m s = p at *
      by_cases q : a < (p : Int)
      · have HZ := Lib.hid (HY.out q)
        go_wp2_with fail
        go_roundg s
        case measure => omega
        case rel => exact ⟨HAr.out, s, p, rfl, by omega, rfl, rfl, HZ.out⟩
      · have HZ := Lib.hid (HNo.out (by omega))
        go_wp2_with fail
        go_roundg s
        case measure => omega
        case rel => exact ⟨HAr.out, s, nx, rfl, by omega, rfl, rfl, HZ.out⟩
end Go.Proofs.YtibdaielglpcmaaDoor
