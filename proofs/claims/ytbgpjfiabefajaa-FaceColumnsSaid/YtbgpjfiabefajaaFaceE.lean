/- face: lives; FaceColumns, walked. -/
import Derived.Test.YtbgpjfiabefajaaFaceD
namespace Go.Proofs.Ytbgpjfiabefajaa
set_option linter.unusedSimpArgs false
set_option linter.unusedVariables false
set_option linter.unusedSectionVars false
open Go.RowKit

theorem colsZ_get (r : Int) {i : Nat} (h : i < (colsZ r).length) : (colsZ r)[i] = colZ r i := by
  have h5 : (colsZ r).length = 5 := rfl
  have : i = 0 ∨ i = 1 ∨ i = 2 ∨ i = 3 ∨ i = 4 := by omega
  rcases this with rfl | rfl | rfl | rfl | rfl <;> rfl
theorem col_A : colZ 65 0 = 124 := by decide +kernel
set_option maxRecDepth 100000 in
set_option maxHeartbeats 1600000 in
theorem flives_any (T : TSays) (w : World) : Calls Try.prog 42 #[] w fun e w' => e = .returned (.bool true) ∧ AnyLater w w' := by
  have HT := Lib.hid T
  clear T
  go_enter Try.func42, Try.ntmps42
  go_wp2_with fail
  refine (HT.out.cols 65 ⟨by omega, by omega⟩).mono ?_
  rintro e w1 ⟨u, rfl, b1, hr⟩
  obtain ⟨A, cap, rfl, hcap, hcell⟩ := hr
  obtain ⟨b, off, rfl, hb, hc⟩ := hcell (by decide)
  have cc : w1.cell? ⟨b, off, none⟩ = some (.int .u8 124) := by
    have := hc 0 (by decide)
    rw [Nat.add_zero] at this
    rw [this, colsZ_get, show ((0 : Nat) : Int) = 0 from rfl, col_A]
  have h5 : (colsZ 65).length = 5 := rfl
  have HB := Lib.hid b1
  rw [h5] at hcap ⊢
  clear hcell hc b1 h5
  go_wp2_with fail
  refine (HT.out.known 65 true (by decide) ⟨by omega, by omega⟩).mono ?_
  rintro e w2 ⟨rfl, b2⟩
  have HB2 := Lib.hid (HB.out.trans b2)
  clear b2
  go_wp2_with fail
  refine (HT.out.adv 2 65 12 (by decide) (by unfold I64; omega) ⟨by omega, by omega⟩).mono ?_
  rintro e w3 ⟨rfl, b3⟩
  have HB3 := Lib.hid (HB2.out.trans b3)
  clear b3
  go_wp2_with fail
  go_ret
  exact ⟨rfl, HB3.out⟩
set_option maxRecDepth 100000 in
set_option maxHeartbeats 3200000 in
theorem faceColumns_any (T : TSays) (W : World) (r : Int) (hb : -2147483648 ≤ r ∧ r ≤ 2147483647) : Calls Try.prog 10 #[.int .i32 r] W fun e w' => e = .returned (.bool true) ∧ AnyLater W w' := by
  have HT := Lib.hid T
  have HB := Lib.hid hb
  obtain ⟨r1, r2⟩ := hb
  obtain ⟨kn, hkn⟩ : ∃ b, knownZ r = b := ⟨_, rfl⟩
  have HK := Lib.hid hkn
  have HKn := Lib.hid (fun (w : World) => T.known (w := w) r kn hkn HB.out)
  have HLv := Lib.hid (fun w => flives_any T w)
  have HCol := Lib.hid (fun (i : Nat) (hi : i ≤ 4) w => refCol_any r i w _ rfl HB.out ⟨by omega, by omega⟩)
  clear T hkn
  go_enter Try.func10, Try.ntmps10
  go_wp2_with fail
  refine (HT.out.cols r HB.out).mono ?_
  rintro e w1 ⟨u, rfl, b1, hr⟩
  obtain ⟨A, cap, rfl, hcap, hcell⟩ := hr
  obtain ⟨b, off, rfl, hbl, hc⟩ := hcell (show 0 < 5 by decide)
  have HCJ : Hid (∀ w', AnyLater w1 w' → ∀ i : Nat, i < 5 → w'.cell? ⟨b, off + i, none⟩ = some (.int .u8 (colZ r i))) := Lib.hid (fun w' h i hi => by
    have h5 : i < (colsZ r).length := hi
    rw [h.below.cell hbl, hc i h5, colsZ_get])
  have h5 : (colsZ r).length = 5 := rfl
  have HA1 := Lib.hid b1
  rw [h5] at hcap ⊢
  clear hcell hc b1 h5 hbl
  go_wp2_with fail
  go_loopg [4] 5 (fun kk iv wr => AnyLater w1 wr ∧ ∃ i : Nat, kk = 5 - i ∧ i ≤ 5 ∧ iv = .int .i64 i)
  case atStart => exact ⟨AnyLater.refl _, 0, by omega, by omega, rfl⟩
  case round =>
    obtain ⟨a_wr, i, hk, hi, rfl⟩ := hrel
    by_cases hlt : i < 5
    · have cc := HCJ.out wr a_wr i hlt
      have zb := colZ_in (n := r) (i := (i : Int)) ⟨by omega, by omega⟩
      have HCi := Lib.hid (HCol.out i (by omega))
      generalize colZ r i = z at *
      have HA := Lib.hid a_wr
      go_wp2_with fail
      apply wp_region_free (9) [⟨7, 22, .int .i64 z, false, fun v _ => v = .int .i64 z⟩] [] rfl (by kernel_rfl) (by kernel_rfl) (by kernel_rfl) (by simp) (by kernel_rfl)
      case hstab =>
        intro c hc
        simp only [List.mem_cons, List.not_mem_nil, or_false] at hc
        rcases hc with rfl
        · intro v x y hxy hv; exact hv
      case hfix =>
        intro c hc
        simp only [List.mem_cons, List.not_mem_nil, or_false] at hc
        rcases hc with rfl
        · exact .inr fun u x h => h
      case hlex =>
        intro U hU
        have q_cc := cell_on hU cc
        simp only [List.map_cons, List.map_nil, CA.act, actFrom, actOp, List.lookup, Nat.reduceBEq, Nat.reduceLeDiff, Nat.reduceAdd, if_false, if_true]
        repeat (go_big_quiet_step (first | fail))
        exact wpQuiet_nil rfl
      case hstep =>
        intro j hj o ho
        have hj2 : j = 0 := by simp at hj; omega
        rcases hj2 with rfl
        · cases ho
          refine ⟨rfl, fun g x hx hp => ?_⟩
          clear hp
          simp only [fillAll, Act.put, List.setIfInBounds_toArray, List.set_cons_zero, List.set_cons_succ]
          refine chain_go ?_ (free_fix (HCi.out x))
          simp [go_sem, execOp]
      case htail =>
        intro g u hst hne
        have b_w2 : AnyLater wr (later u) := ⟨u, rfl⟩
        generalize later u = w2 at *
        clear u
        clear hst hne
        simp only [fillAll, Act.put, List.setIfInBounds_toArray, List.set_cons_zero, List.set_cons_succ, List.drop_succ_cons, List.drop_zero, List.drop_nil]
        have z_w2 := b_w2.below.size
        have a_w2 := a_wr.trans b_w2
        have cc_w2 := cell_on b_w2 cc
        go_wp2_with fail
        go_roundg (5 - (i + 1))
        case measure => omega
        case rel => exact ⟨a_w2, i + 1, rfl, by omega, by go_num⟩
    · obtain rfl : i = 5 := by omega
      have HA := Lib.hid a_wr
      clear a_wr
      go_upto_region 9 with fail
      go_cut [5] (fun v wx => v = .bool kn ∧ wx = wr)
      case first =>
        have q : (r < 32 ∧ kn = false) ∨ (32 ≤ r ∧ r ≤ 126 ∧ kn = true) ∨ (126 < r ∧ r < 160 ∧ kn = false) ∨ (160 ≤ r ∧ r ≤ 255 ∧ kn = true) ∨ (255 < r ∧ r < 9472 ∧ kn = false) ∨ (9472 ≤ r ∧ r ≤ 9599 ∧ kn = true) ∨ (9599 < r ∧ kn = false) := by
          have h := HK.out
          unfold knownZ at h
          rcases kn
          · simp only [Bool.or_eq_false_iff, decide_eq_false_iff_not] at h
            obtain ⟨⟨n1, n2⟩, n3⟩ := h
            have : r < 32 ∨ (126 < r ∧ r < 160) ∨ (255 < r ∧ r < 9472) ∨ 9599 < r := by omega
            rcases this with q | ⟨q, q'⟩ | ⟨q, q'⟩ | q
            · exact .inl ⟨q, rfl⟩
            · exact .inr (.inr (.inl ⟨q, q', rfl⟩))
            · exact .inr (.inr (.inr (.inr (.inl ⟨q, q', rfl⟩))))
            · exact .inr (.inr (.inr (.inr (.inr (.inr ⟨q, rfl⟩)))))
          · simp only [Bool.or_eq_true, decide_eq_true_eq] at h
            rcases h with (⟨n1, n2⟩ | ⟨n1, n2⟩) | ⟨n1, n2⟩
            · exact .inr (.inl ⟨n1, n2, rfl⟩)
            · exact .inr (.inr (.inr (.inl ⟨n1, n2, rfl⟩)))
            · exact .inr (.inr (.inr (.inr (.inr (.inl ⟨n1, n2, rfl⟩)))))
        rcases q with ⟨q, e⟩ | ⟨q, q', e⟩ | ⟨q, q', e⟩ | ⟨q, q', e⟩ | ⟨q, q', e⟩ | ⟨q, q', e⟩ | ⟨q, e⟩
        all_goals
          subst e
          go_wp2_with fail
          go_meet
          case rel => exact ⟨by first | rfl | (simp; omega), rfl⟩
      case rest =>
        obtain ⟨rfl, hw⟩ := hcut
        subst hw
        go_wp2_with fail
        refine (HKn.out _).mono ?_
        rintro e w3 ⟨rfl, b3⟩
        have HA3 := Lib.hid (HA1.out.trans (HA.out.trans b3))
        clear b3
        go_wp2_with fail
        refine (HLv.out _).mono ?_
        rintro e w4 ⟨rfl, b4⟩
        have HA4 := Lib.hid (HA3.out.trans b4)
        clear b4
        go_wp2_with fail
        go_ret
        exact ⟨rfl, HA4.out⟩
end Go.Proofs.Ytbgpjfiabefajaa
