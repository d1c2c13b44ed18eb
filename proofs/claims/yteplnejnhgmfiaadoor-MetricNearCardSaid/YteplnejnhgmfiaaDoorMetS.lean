/- metric: MetricHeights. -/
import Derived.Test.YteplnejnhgmfiaaDoorMetR
import Derived.Test.YteplnejnhgmfiaaDoorMetD
namespace Go.Proofs.YteplnejnhgmfiaaDoor
set_option linter.unusedSimpArgs false
set_option linter.unusedVariables false
set_option linter.unusedSectionVars false
open Go.RowKit

theorem fewLd_ok {r : Ld} (h : LdOk r) : LdOk (fewLd r) := ⟨h.1, fun c hc => h.2.1 c (List.mem_of_mem_take hc), fun x hx => h.2.2 x (List.mem_of_mem_take hx)⟩
theorem fewL_ok {L : List Ld} (h : LdsOk L) : LdsOk (fewL L) := by
  intro r hr
  obtain ⟨q, hq, rfl⟩ := List.mem_map.1 hr
  exact fewLd_ok (h q (List.mem_of_mem_take hq))
theorem fewL_small (L : List Ld) : ∀ r ∈ fewL L, r.cs.length ≤ 60 ∧ r.xs.length ≤ 70 := by
  intro r hr
  obtain ⟨q, hq, rfl⟩ := List.mem_map.1 hr
  unfold fewLd
  simp only [List.length_take]
  omega
set_option maxRecDepth 100000 in
set_option maxHeartbeats 1600000 in
theorem metricHeights_any (W : World) (v0 : Value) (L0 : List Ld) (y : Int) (hv : LR W v0 L0) (hN0 : LdsOk L0) (hy : I64s y) (hg : GlobU W) : Calls Tryd.prog 4 #[v0, .int .i64 y] W fun e w' => e = .returned (.bool true) ∧ AnyLater W w' := by
  have HF0 := Lib.hid (mfew_any v0 L0 W hv)
  obtain ⟨L, hL⟩ : ∃ L, fewL L0 = L := ⟨_, rfl⟩
  have hl : L.length ≤ 10 := by rw [← hL, fewL_length]; omega
  have hN : LdsOk L := by rw [← hL]; exact fewL_ok hN0
  have hS : ∀ r ∈ L, r.cs.length ≤ 60 ∧ r.xs.length ≤ 70 := by rw [← hL]; exact fewL_small L0
  rw [hL] at HF0
  have HF := Lib.hid (fun w v (h : LR w v L) => mfew_any v L w h)
  rw [fewL_same hl hS] at HF
  obtain ⟨⟨r1, r2⟩, hr⟩ : ∃ r, rowL y L = r := ⟨_, rfl⟩
  obtain ⟨s, hs⟩ : ∃ s, sumL L = s := ⟨_, rfl⟩
  have HR := Lib.hid (fun w v (h : LR w v L) => mrow_any v L y w r1 r2 hr h hN (by omega) hy)
  have HXR := Lib.hid (fun w v (h : LR w v L) => xrow_any v L y w r1 r2 hr h hN (by omega) hy)
  have HSU := Lib.hid (fun w v (h : LR w v L) => msum_any v L w s hs h hN (by omega))
  have HXS := Lib.hid (fun w v (h : LR w v L) => xsum_any v L w s hs h hN (by omega))
  have HLv := Lib.hid (fun w (a : AnyLater W w) => mlives_any w (hg.later a))
  have HOK := Lib.hid hN
  obtain ⟨A0, p0, rfl, -⟩ := hv.form
  obtain ⟨n, hn⟩ : ∃ n, L.length = n := ⟨_, rfl⟩
  have HL := Lib.hid hn
  rw [hn] at hl
  obtain ⟨y1, y2⟩ := hy
  clear hv hN0 hg hL hN hS hr hs hn
  go_enter Tryd.func4, Tryd.ntmps4
  go_wp2_with fail
  refine HF0.out.mono ?_
  rintro e w1 ⟨u1, rfl, b1, o1⟩
  have H1 := Lib.hid (And.intro b1 o1.lr)
  obtain ⟨A1, p1, rfl, hp1⟩ := o1.form
  have hln : L.length = n := HL.out
  rw [hln] at H1 hp1 ⊢
  clear b1 o1 hln
  go_wp2_with fail
  refine (HF.out _ _ H1.out.2).mono ?_
  rintro e w2 ⟨u2, rfl, b2, o2⟩
  have H2 := Lib.hid (And.intro (H1.out.1.trans b2) (And.intro (H1.out.2.later b2) o2.lr))
  clear b2 o2 H1
  go_wp2_with fail
  refine (HR.out _ _ H2.out.2.2).mono ?_
  rintro e w3 ⟨rfl, b3⟩
  have H3 := Lib.hid (And.intro (H2.out.1.trans b3) (H2.out.2.1.later b3))
  clear b3 H2
  go_wp2_with fail
  refine (HXR.out _ _ H3.out.2).mono ?_
  rintro e w4 ⟨rfl, b4⟩
  have H4 := Lib.hid (And.intro (H3.out.1.trans b4) (H3.out.2.later b4))
  clear b4 H3
  go_wp2_with fail
  refine (HF.out _ _ H4.out.2).mono ?_
  rintro e w5 ⟨u5, rfl, b5, o5⟩
  have H5 := Lib.hid (And.intro (H4.out.1.trans b5) (And.intro (H4.out.2.later b5) o5.lr))
  clear b5 o5 H4
  go_wp2_with fail
  refine (HSU.out _ _ H5.out.2.2).mono ?_
  rintro e w6 ⟨rfl, b6⟩
  have H6 := Lib.hid (And.intro (H5.out.1.trans b6) (H5.out.2.1.later b6))
  clear b6 H5
  go_wp2_with fail
  refine (HXS.out _ _ H6.out.2).mono ?_
  rintro e w7 ⟨rfl, b7⟩
  have H7 := Lib.hid (And.intro (H6.out.1.trans b7) (H6.out.2.later b7))
  clear b7 H6
  go_wp2_with fail
  go_loopg [9] n (fun k i wr => AnyLater W wr ∧ LR wr (.slice A1 n p1) L ∧ ∃ j : Nat, k = n - j ∧ j ≤ n ∧ i = .int .i64 j)
  case atStart => exact ⟨H7.out.1, H7.out.2, 0, by omega, by omega, rfl⟩
  case round =>
    obtain ⟨a_wr, hlr, j, hk, hj, rfl⟩ := hrel
    have HA := Lib.hid (And.intro a_wr hlr)
    clear hlr
    by_cases hlt : j < n
    · have lj : j < L.length := by rw [HL.out]; exact hlt
      have i1 : (j : Int) < (n : Int) := by omega
      obtain ⟨b, off, a1, k1, a2, k2, rfl, hb, -, c0, c1, c2, c3, c4, c5, c6⟩ := ldAt HA.out.2 j lj
      have hok := (HOK.out L[j] (List.getElem_mem lj)).1
      generalize L[j] = r at *
      obtain ⟨hu, hd, -, -⟩ := hok
      obtain ⟨h, hh⟩ : ∃ h, htZ r.up r.dn = h := ⟨_, rfl⟩
      have HH := Lib.hid (fun w => mheight_any a1 a2 r.cs.length k1 r.xs.length k2 r.up r.dn r.fr r.en r.la w h hh hu hd)
      have HXH := Lib.hid (fun w => xheight_any a1 a2 r.cs.length k1 r.xs.length k2 r.up r.dn r.fr r.en r.la w h hh hu hd)
      clear hu hd hh
      generalize r.cs.length = m1 at *
      generalize r.xs.length = m2 at *
      generalize r.up = up at *
      generalize r.dn = dn at *
      generalize r.fr = fr at *
      generalize r.en = en at *
      generalize r.la = la at *
      go_wp2_with fail
      apply wp_region_free (11) [⟨4, 51, .int .i64 h, false, fun v _ => v = .int .i64 h⟩, ⟨9, 56, .int .i64 h, false, fun v _ => v = .int .i64 h⟩] [] rfl (by kernel_rfl) (by kernel_rfl) (by kernel_rfl) (by simp) (by kernel_rfl)
      case hstab =>
        intro c hc
        simp only [List.mem_cons, List.not_mem_nil, or_false] at hc
        rcases hc with rfl | rfl
        · intro v x y hxy hv; exact hv
        · intro v x y hxy hv; exact hv
      case hfix =>
        intro c hc
        simp only [List.mem_cons, List.not_mem_nil, or_false] at hc
        rcases hc with rfl | rfl
        · exact .inr fun u x h => h
        · exact .inr fun u x h => h
      case hlex =>
        intro U hU
        have q_c0 := cell_on hU c0
        have q_c1 := cell_on hU c1
        have q_c2 := cell_on hU c2
        have q_c3 := cell_on hU c3
        have q_c4 := cell_on hU c4
        have q_c5 := cell_on hU c5
        have q_c6 := cell_on hU c6
        simp only [List.map_cons, List.map_nil, CA.act, actFrom, actOp, List.lookup, Nat.reduceBEq, Nat.reduceLeDiff, Nat.reduceAdd, if_false, if_true]
        repeat (go_big_quiet_step (first | fail))
        exact wpQuiet_nil rfl
      case hstep =>
        intro j hj o ho
        have hj2 : j = 0 ∨ j = 1 := by simp at hj; omega
        rcases hj2 with rfl | rfl
        · cases ho
          refine ⟨rfl, fun g x hx hp => ?_⟩
          clear hp
          simp only [fillAll, Act.put, List.setIfInBounds_toArray, List.set_cons_zero, List.set_cons_succ]
          refine chain_go ?_ (free_fix (HH.out x))
          first | (simp [go_sem, execOp]; done) | simp [go_sem, execOp, hcf]
        · cases ho
          refine ⟨rfl, fun g x hx hp => ?_⟩
          clear hp
          simp only [fillAll, Act.put, List.setIfInBounds_toArray, List.set_cons_zero, List.set_cons_succ]
          refine chain_go ?_ (free_fix (HXH.out x))
          first | (simp [go_sem, execOp]; done) | simp [go_sem, execOp, hcf]
      case htail =>
        intro g u hst hne
        have b_w8 : AnyLater wr (later u) := ⟨u, rfl⟩
        generalize later u = w8 at *
        clear u
        clear hst hne
        simp only [fillAll, Act.put, List.setIfInBounds_toArray, List.set_cons_zero, List.set_cons_succ, List.drop_succ_cons, List.drop_zero, List.drop_nil]
        have z_w8 := b_w8.below.size
        have a_w8 := a_wr.trans b_w8
        have c0_w8 := cell_on b_w8 c0
        have c1_w8 := cell_on b_w8 c1
        have c2_w8 := cell_on b_w8 c2
        have c3_w8 := cell_on b_w8 c3
        have c4_w8 := cell_on b_w8 c4
        have c5_w8 := cell_on b_w8 c5
        have c6_w8 := cell_on b_w8 c6
        have HA8 := Lib.hid (And.intro (HA.out.1.trans b_w8) (HA.out.2.later b_w8))
        clear c0 c1 c2 c3 c4 c5 c6
        go_wp2_with fail
        go_roundg (n - (j + 1))
        case measure => omega
        case rel => exact ⟨HA8.out.1, HA8.out.2, j + 1, rfl, by omega, by go_num⟩
    · obtain rfl : j = n := by omega
      clear a_wr
      go_wp2_with fail
      refine (HLv.out _ HA.out.1).mono ?_
      rintro e w9 ⟨rfl, b9⟩
      have H9 := Lib.hid (HA.out.1.trans b9)
      clear b9
      go_wp2_with fail
      go_ret
      exact ⟨rfl, H9.out⟩
end Go.Proofs.YteplnejnhgmfiaaDoor
