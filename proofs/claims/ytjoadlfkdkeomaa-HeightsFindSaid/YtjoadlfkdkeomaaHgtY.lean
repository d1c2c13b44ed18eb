/- heights: where each line begins, in which line any height lies, and what stands beside. -/
import Derived.Test.YtjoadlfkdkeomaaHgtX
import Derived.LoopN
import Derived.Deep.LoopGhost
import Derived.BigRegion
import Derived.RegionTactic
import Derived.Shelf.Abstract
import Derived.ChangeKeysEq
import Derived.Deep.DeepCutAuto
import Derived.Deep.CutBlock
namespace Go.Proofs.Ytjoadlfkdkeomaa
set_option linter.unusedSimpArgs false
set_option linter.unusedVariables false
set_option linter.unusedSectionVars false
open Go.RowKit
variable {B : Nat}

set_option maxRecDepth 100000 in
set_option maxHeartbeats 1600000 in
theorem heightsFind_bad (v av : Value) (l m : Qs) (acs : List HAM) (a0 a1 : Int) (w : World) (hm : l.take 30 = m) (hv : QR w v l) (ha : HAcS w av acs) (hb : m.any tlBad = true) : Calls Try.prog 4 #[v, av, .agg #[.int .i64 a0, .int .i64 a1]] w fun e w' => e = .returned (.bool true) ∧ AnyLater w w' := by
  have hm30 : m.length ≤ 30 := by rw [← hm, List.length_take]; omega
  have HBe := Lib.hid (fun (W : World) (a : AnyLater w W) => hbegin_bad v l m W hm (hv.later a) hb)
  have HF := Lib.hid (fun (W : World) (a : AnyLater w W) => htfew_any v l m W hm (hv.later a))
  have HA := Lib.hid (fun (W : World) (u : Value) (h : QR W u m) => rall_any u m false W (by rw [hb]; rfl) h (by omega))
  have HLv := Lib.hid (fun w' => hlives_any w')
  obtain ⟨A, cap, rfl, -⟩ := hv.form
  obtain ⟨A2, cap2, rfl, -, -⟩ := ha
  clear hv hm hb hm30
  generalize l.length = n at *
  generalize acs.length = n2 at *
  go_enter Try.func4, Try.ntmps4
  go_wp2_with fail
  first | refine settle_wp (fun wS => AnyLater w wS ∧ wS.heap[w.heap.size]? = some (.cells #[.int .i64 a0, .int .i64 a1] 44)) ?_ ?_ | refine settle_calls (fun wS => AnyLater w wS ∧ wS.heap[w.heap.size]? = some (.cells #[.int .i64 a0, .int .i64 a1] 44)) ?_ ?_
  · refine ⟨?_, ?_⟩
    · repeat' (first | with_reducible assumption | with_reducible exact AnyLater.refl _ | with_reducible apply AnyLater.setCell | with_reducible apply AnyLater.later | with_reducible apply AnyLater.drewN | with_reducible apply AnyLater.drew | with_reducible apply AnyLater.alloc | ((try simp only [World.size_alloc, World.size_setCell, World.size_drew]); (try dsimp only); omega))
    · ((repeat (first | with_reducible assumption | ((with_reducible apply heap_new); (try simp only [World.size_alloc, World.size_setCell, World.size_drew, World.heap_drewN]); done) | ((with_reducible apply heap_new); (try simp only [World.size_alloc, World.size_setCell, World.size_drew, World.heap_drewN]); omega) | (with_reducible refine heap_old (by (try simp only [World.size_alloc, World.size_setCell, World.size_drew, World.heap_drewN]); omega) ?_) | (with_reducible refine heap_drew ?_) | (with_reducible refine heap_far (by omega) ?_) | (with_reducible apply heap_at))); all_goals rfl)
  rintro w0 ⟨b_w0, s0_w0⟩
  have a_w0 := b_w0
  have r0_w0 := own_row s0_w0
  have f0_w0 := own_free s0_w0
  have l0_w0 := own_lt s0_w0
  have z_w0 := b_w0.below.size
  refine (HBe.out w0 a_w0).mono ?_
  rintro e w1 ⟨xg, rfl, b1⟩
  have B1 := Lib.hid (a_w0.trans b1)
  clear b1
  go_wp2_with fail
  refine (HF.out w1 B1.out).mono ?_
  rintro e w2 ⟨u2, rfl, b2, o2⟩
  have B2 := Lib.hid (And.intro (B1.out.trans b2) (OQ.rq o2))
  obtain ⟨A3, cap3, rfl, -⟩ := (OQ.rq o2).form
  clear b2 o2
  go_wp2_with fail
  refine (HA.out w2 _ B2.out.2).mono ?_
  rintro e w3 ⟨rfl, b3⟩
  have B3 := Lib.hid (B2.out.1.trans b3)
  clear b3
  go_wp2_with fail
  refine (HLv.out w3).mono ?_
  rintro e w4 ⟨rfl, b4⟩
  have B4 := Lib.hid (B3.out.trans b4)
  clear b4
  go_wp2_with fail
  go_ret
  exact ⟨rfl, B4.out⟩
set_option maxRecDepth 100000 in
set_option maxHeartbeats 6400000 in
theorem heightsFind_yes (v av : Value) (l m : Qs) (acs : List HAM) (a0 a1 : Int) (w : World) (hm : l.take 30 = m) (hv : QR w v l) (ha : HAcS w av acs) (h0 : a0 ≤ 9223372036854775807) (h1 : -9223372036854775808 ≤ a1) (hb : m.any tlBad = false) : Calls Try.prog 4 #[v, av, .agg #[.int .i64 a0, .int .i64 a1]] w fun e w' => e = .returned (.bool true) ∧ AnyLater w w' := by
  have hm30 : m.length ≤ 30 := by rw [← hm, List.length_take]; omega
  have HBe := Lib.hid (fun (W : World) (a : AnyLater w W) => hbegin_yes v l m W hm (hv.later a) hb)
  have HLv := Lib.hid (fun w' => hlives_any w')
  have ez := neqTall
  have gz := guard_tall
  have hf1 := hfield1
  obtain ⟨A, cap, rfl, -⟩ := hv.form
  obtain ⟨Av, capv, rfl, hav, hac⟩ := ha
  have HAV := Lib.hid (And.intro hav hac)
  have H01 := Lib.hid (And.intro h0 h1)
  clear hv hm hb hav hac h0 h1
  generalize l.length = n at *
  obtain ⟨nl, hnl⟩ : ∃ nl, acs.length = nl := ⟨_, rfl⟩
  have HNL := Lib.hid hnl
  rw [hnl]
  clear hnl
  go_enter Try.func4, Try.ntmps4
  go_wp2_with fail
  first | refine settle_wp (fun wS => AnyLater w wS ∧ wS.heap[w.heap.size]? = some (.cells #[.int .i64 a0, .int .i64 a1] 44)) ?_ ?_ | refine settle_calls (fun wS => AnyLater w wS ∧ wS.heap[w.heap.size]? = some (.cells #[.int .i64 a0, .int .i64 a1] 44)) ?_ ?_
  · refine ⟨?_, ?_⟩
    · repeat' (first | with_reducible assumption | with_reducible exact AnyLater.refl _ | with_reducible apply AnyLater.setCell | with_reducible apply AnyLater.later | with_reducible apply AnyLater.drewN | with_reducible apply AnyLater.drew | with_reducible apply AnyLater.alloc | ((try simp only [World.size_alloc, World.size_setCell, World.size_drew]); (try dsimp only); omega))
    · ((repeat (first | with_reducible assumption | ((with_reducible apply heap_new); (try simp only [World.size_alloc, World.size_setCell, World.size_drew, World.heap_drewN]); done) | ((with_reducible apply heap_new); (try simp only [World.size_alloc, World.size_setCell, World.size_drew, World.heap_drewN]); omega) | (with_reducible refine heap_old (by (try simp only [World.size_alloc, World.size_setCell, World.size_drew, World.heap_drewN]); omega) ?_) | (with_reducible refine heap_drew ?_) | (with_reducible refine heap_far (by omega) ?_) | (with_reducible apply heap_at))); all_goals rfl)
  rintro w1 ⟨b_w1, s0_w1⟩
  have a_w1 := b_w1
  have r0_w1 := own_row s0_w1
  have f0_w1 := own_free s0_w1
  have l0_w1 := own_lt s0_w1
  have z_w1 := b_w1.below.size
  have HAw := Lib.hid a_w1
  have HBX := Lib.hid s0_w1
  refine (HBe.out w1 a_w1).mono ?_
  rintro e w2 ⟨hg, xg, K0, rL0, rH0, rfl, b2, q2⟩
  have H2 : Hid (HOn w1 hg xg 30 w2) := Lib.hid ⟨b2, K0, rL0, rH0, _, _, q2, hm30⟩
  clear b2 q2 hm30 HBe
  go_upto_block 0 with fail
  go_cut [] (fun wx => ∃ n, Hid (HOn w1 hg xg n wx ∧ n ≤ 2000))
  case first =>
    go_wp2_with fail
    go_loopg [10] nl (fun kk iv wr => ∃ i : Nat, kk = nl - i ∧ i ≤ nl ∧ i ≤ 40 ∧ iv = .int .i64 i ∧ Hid (HOn w1 hg xg (30 + 30 * i) wr))
    case atStart => exact ⟨0, by omega, by omega, by omega, rfl, Lib.hid H2.out⟩
    case round =>
      obtain ⟨i, hk, hi, hi50, rfl, HI⟩ := hrel
      by_cases hlt : i < nl ∧ i < 40
      · obtain ⟨h1, h2⟩ := hlt
        have hil : i < acs.length := by rw [HNL.out]; exact h1
        obtain ⟨b0, off, rfl, hb0, hcs⟩ := HAV.out.2 (by omega)
        obtain ⟨c0, c1, c2, c3, c4, c5, c6⟩ := hcs i hil
        have aw := HAw.out.trans HI.out.1
        have c0 := cell_on aw c0
        have c1 := cell_on aw c1
        have c2 := cell_on aw c2
        have c3 := cell_on aw c3
        have c4 := cell_on aw c4
        have c5 := cell_on aw c5
        have c6 := cell_on aw c6
        have d0 : (i : Int) < (nl : Int) := by omega
        have d1 : (i : Int) < 40 := by omega
        have hAl := (HAV.out.1 i hil).later HAw.out
        generalize acs[i] = Ai at *
        obtain ⟨k4, i4, n4, x4, y4, v4, l4, on4⟩ := Ai
        simp only at c0 c1 c2 c3 c4 c5 c6 hAl
        have HDo : Hid (Calls Try.prog 11 #[.pointer (some ⟨hg, 0, none⟩), .pointer (some ⟨xg, 0, none⟩), .agg #[.int .i64 k4, .int .i64 i4, .int .i64 n4, .int .i64 x4, .int .i64 y4, v4, .bool on4]] wr fun e W' => e = .returned (.bool true) ∧ HOn w1 hg xg (30 + 30 * (i + 1)) W') := Lib.hid (by
          obtain ⟨a0, K, rL, rH, L, H, q, hl⟩ := HI.out
          refine (hdoes_any hg xg K rL rH L l4 H k4 i4 n4 x4 y4 v4 on4 wr q (by omega) w1 (Nat.le_refl _) a0 hAl).mono ?_
          intro e W' hq
          have := HOn.step a0 hq hl
          rw [show 30 + 30 * (i + 1) = 30 + 30 * i + 30 by omega]
          exact this)
        obtain ⟨A5, cap5, rfl, -⟩ := hAl.form
        clear hcs hil aw hAl HI
        generalize l4.length = ll at *
        go_wp2_with fail
        refine HDo.out.mono ?_
        rintro e w5 ⟨rfl, q5⟩
        have H5 := Lib.hid q5
        clear q5 c0 c1 c2 c3 c4 c5 c6
        go_wp2_with fail
        go_roundg (nl - (i + 1))
        case measure => omega
        case rel => exact ⟨i + 1, rfl, by omega, by omega, by go_num, H5⟩
      · have h12 : nl ≤ i ∨ 40 ≤ i := by omega
        by_cases h1 : i < nl
        · have d0 : (i : Int) < (nl : Int) := by omega
          have d1 : decide ((i : Int) < 40) = false := decide_eq_false (by omega)
          have d2 : decide (i < 40) = false := decide_eq_false (by omega)
          clear hlt hk h12
          go_wp2_with fail
          go_meet
          case rel => exact ⟨_, Lib.hid ⟨HI.out, by omega⟩⟩
        · have d0 : decide ((i : Int) < (nl : Int)) = false := decide_eq_false (by omega)
          have d1 : decide (i < nl) = false := decide_eq_false (by omega)
          clear hlt hk h12
          go_wp2_with fail
          go_meet
          case rel => exact ⟨_, Lib.hid ⟨HI.out, by omega⟩⟩
  case rest =>
    generalize wc = wr at *
    obtain ⟨n9, HI⟩ := hcut
    obtain ⟨a5, K5, rL5, rH5, L5, HB5, qx5, hl5⟩ := HI.out.1
    have hl45 : L5.length ≤ 45000 := by have := HI.out.2; omega
    have hBl : HB5.length = L5.length := qx5.x.len
    have hT := shw_tls qx5.h.few.1 HB5
    obtain ⟨n5, hn5⟩ : ∃ n5, L5.length = n5 := ⟨_, rfl⟩
    obtain ⟨S, hS⟩ : ∃ S, shwL L5 HB5 = S := ⟨_, rfl⟩
    have hSl : S.length = n5 := by rw [← hS, shw_len hBl, hn5]
    rw [hS] at hT
    obtain ⟨r1, r2, hr⟩ : ∃ r1 r2, fdL 2 a0 S 0 (-1) 0 0 = (r1, r2) := ⟨_, _, rfl⟩
    obtain ⟨T1, hT1⟩ : ∃ T, tlR (S.take (sumN S a1)) = T := ⟨_, rfl⟩
    obtain ⟨T2, hT2⟩ : ∃ T, tlH (S.take (sumN S a1)) = T := ⟨_, rfl⟩
    obtain ⟨tR, htR⟩ : ∃ T, tlR S = T := ⟨_, rfl⟩
    obtain ⟨tH, htH⟩ : ∃ T, tlH S = T := ⟨_, rfl⟩
    obtain ⟨nx, is, hnx, hni⟩ := next_eq HB5 n5 (by rw [hBl, hn5]) a1
    obtain ⟨pv, was, hpv, hpi⟩ := prev_eq HB5 n5 (by rw [hBl, hn5]) a1
    obtain ⟨Z, hZ⟩ : ∃ Z, nxZ a1 HB5 0 = Z := ⟨_, rfl⟩
    obtain ⟨Y, hY⟩ : ∃ Y, pvZ a1 HB5 n5 = Y := ⟨_, rfl⟩
    rw [hZ] at hni
    rw [hY] at hpi
    have HNI := Lib.hid (And.intro hni hpi)
    have HSl := Lib.hid hSl
    have HSh := Lib.hid (xshown_any xg rL5 rH5 L5 HB5 wr qx5.x hl45)
    rw [hS] at HSh
    have HLi := Lib.hid (fun (W : World) (a : AnyLater wr W) => hgline_any (.pointer (some ⟨hg, 0, none⟩)) L5 HB5 a0 W H01.out.1 r1 r2 (by rw [hS]; exact hr) (qx5.later a).h.v)
    have HFd := Lib.hid (fun (W : World) (u : Value) (h : QR W u S) => rfind_any2 u S a0 W (r1, r2) hr h (by omega) hT)
    have HTop := Lib.hid (fun (W : World) (a : AnyLater wr W) => hgtop_any (.pointer (some ⟨hg, 0, none⟩)) L5 HB5 a1 W T2 (by rw [hS]; exact hT2) (qx5.later a).h.v)
    have HSu1 := Lib.hid (fun (W : World) (u : Value) (h : QR W u S) => rsum_any u S a1 W T1 T2 hT1 hT2 h (by omega) hT)
    have HTot := Lib.hid (fun (W : World) (a : AnyLater wr W) => hgtotal_any (.pointer (some ⟨hg, 0, none⟩)) L5 HB5 W tR tH (by rw [hS]; exact htR) (by rw [hS]; exact htH) (qx5.later a).h.v)
    have HSu2 := Lib.hid (fun (W : World) (u : Value) (h : QR W u S) => rsum_any u S (n5 : Int) W tR tH (by rw [← hSl, sumN_all, List.take_length]; exact htR) (by rw [← hSl, sumN_all, List.take_length]; exact htH) h (by omega) hT)
    have HNx := Lib.hid (fun (W : World) (a : AnyLater wr W) => hgnext_any (.pointer (some ⟨hg, 0, none⟩)) L5 HB5 a1 W H01.out.2 (.tuple #[.int .i64 nx, .bool is]) (by rw [hn5]; exact hnx) (qx5.later a).h.v)
    have HPv := Lib.hid (fun (W : World) (a : AnyLater wr W) => hgprev_any (.pointer (some ⟨hg, 0, none⟩)) L5 HB5 a1 W (.tuple #[.int .i64 pv, .bool was]) hpv (qx5.later a).h.v)
    have HXN := Lib.hid (fun (W : World) (a : AnyLater wr W) => xnext_any xg rL5 rH5 L5 HB5 a1 W Z hZ (qx5.later a).x hl45)
    have HXP := Lib.hid (fun (W : World) (a : AnyLater wr W) => xprev_any xg rL5 rH5 L5 HB5 a1 W Y (by rw [hn5]; exact hY) (qx5.later a).x hl45)
    have HA := Lib.hid (HAw.out.trans a5)
    have s0_wr := any_own a5 HBX.out
    have r0_wr := own_row s0_wr
    have f0_wr := own_free s0_wr
    have l0_wr := own_lt s0_wr
    clear s0_w1 r0_w1 f0_w1 l0_w1
    clear a5 qx5 hl5 hBl hT hl45 hS hSl hr hT1 hT2 htR htH hnx hpv hni hpi hZ hY hn5
    go_wp2_with fail
    refine HSh.out.mono ?_
    rintro e w3 ⟨u3, rfl, b3, o3⟩
    have HO3 := Lib.hid (And.intro b3 (OQ.rq o3))
    obtain ⟨A8, c8, rfl, -⟩ := (OQ.rq o3).form
    rw [HSl.out] at HO3 ⊢
    have s0_w3 := any_own b3 s0_wr
    have r0_w3 := own_row s0_w3
    have f0_w3 := own_free s0_w3
    have l0_w3 := own_lt s0_w3
    have a_w3 := AnyLater.refl w3
    clear b3 o3 s0_wr r0_wr f0_wr l0_wr
    go_wp2_with fail
    refine (HLi.out w3 HO3.out.1).mono ?_
    rintro e w4 ⟨rfl, b_w4⟩
    have z_w4 := b_w4.below.size
    have a_w4 := a_w3.trans b_w4
    have s0_w4 := any_own b_w4 s0_w3
    have r0_w4 := own_row s0_w4
    have f0_w4 := own_free s0_w4
    have l0_w4 := own_lt s0_w4
    (try clear r0_w3); (try clear f0_w3)
    go_wp2_with fail
    refine (HFd.out w4 _ (HO3.out.2.later a_w4)).mono ?_
    rintro e w5 ⟨rfl, b_w5⟩
    have z_w5 := b_w5.below.size
    have a_w5 := a_w4.trans b_w5
    have s0_w5 := any_own b_w5 s0_w4
    have r0_w5 := own_row s0_w5
    have f0_w5 := own_free s0_w5
    have l0_w5 := own_lt s0_w5
    (try clear r0_w4); (try clear f0_w4)
    go_wp2_with fail
    apply wp_region_free (29) [⟨3, 73, .int .i64 T2, false, fun v _ => v = .int .i64 T2⟩, ⟨7, 77, .agg #[.int .i64 T1, .int .i64 T2], false, fun v _ => v = .agg #[.int .i64 T1, .int .i64 T2]⟩, ⟨12, 82, .agg #[.int .i64 tR, .int .i64 tH], false, fun v _ => v = .agg #[.int .i64 tR, .int .i64 tH]⟩, ⟨16, 86, .agg #[.int .i64 tR, .int .i64 tH], false, fun v _ => v = .agg #[.int .i64 tR, .int .i64 tH]⟩] [] rfl (by kernel_rfl) (by kernel_rfl) (by kernel_rfl) (by simp) (by kernel_rfl)
    case hstab =>
      intro c hc
      simp only [List.mem_cons, List.not_mem_nil, or_false] at hc
      rcases hc with rfl | rfl | rfl | rfl
      · intro v x y hxy hv; exact hv
      · intro v x y hxy hv; exact hv
      · intro v x y hxy hv; exact hv
      · intro v x y hxy hv; exact hv
    case hfix =>
      intro c hc
      simp only [List.mem_cons, List.not_mem_nil, or_false] at hc
      rcases hc with rfl | rfl | rfl | rfl
      · exact .inr fun u x h => h
      · exact .inr fun u x h => h
      · exact .inr fun u x h => h
      · exact .inr fun u x h => h
    case hlex =>
      intro U hU
      have q0 := own_row (any_own hU s0_w5)
      simp only [List.map_cons, List.map_nil, CA.act, actFrom, actOp, List.lookup, Nat.reduceBEq, Nat.reduceLeDiff, Nat.reduceAdd, if_false, if_true]
      repeat (go_big_quiet_step (fail))
      exact wpQuiet_nil rfl
    case hstep =>
      intro j hj o ho
      have hj2 : j = 0 ∨ j = 1 ∨ j = 2 ∨ j = 3 := by simp at hj; omega
      rcases hj2 with rfl | rfl | rfl | rfl
      · cases ho
        refine ⟨rfl, fun g x hx hp => ?_⟩
        clear hp
        simp only [fillAll, Act.put, List.setIfInBounds_toArray, List.set_cons_zero, List.set_cons_succ]
        refine chain_go ?_ (free_fix (HTop.out x (HO3.out.1.trans (a_w5.trans hx))))
        first | (simp [go_sem, execOp]; done) | simp [go_sem, execOp, hcf]
      · cases ho
        refine ⟨rfl, fun g x hx hp => ?_⟩
        clear hp
        simp only [fillAll, Act.put, List.setIfInBounds_toArray, List.set_cons_zero, List.set_cons_succ]
        refine chain_go ?_ (free_fix (HSu1.out x _ (HO3.out.2.later (a_w5.trans hx))))
        first | (simp [go_sem, execOp]; done) | simp [go_sem, execOp, hcf]
      · cases ho
        refine ⟨rfl, fun g x hx hp => ?_⟩
        clear hp
        simp only [fillAll, Act.put, List.setIfInBounds_toArray, List.set_cons_zero, List.set_cons_succ]
        refine chain_go ?_ (free_fix (HTot.out x (HO3.out.1.trans (a_w5.trans hx))))
        first | (simp [go_sem, execOp]; done) | simp [go_sem, execOp, hcf]
      · cases ho
        refine ⟨rfl, fun g x hx hp => ?_⟩
        clear hp
        simp only [fillAll, Act.put, List.setIfInBounds_toArray, List.set_cons_zero, List.set_cons_succ]
        refine chain_go ?_ (free_fix (HSu2.out x _ (HO3.out.2.later (a_w5.trans hx))))
        first | (simp [go_sem, execOp]; done) | simp [go_sem, execOp, hcf]
    case htail =>
      intro g u hst hne
      have b_w6 : AnyLater w5 (later u) := ⟨u, rfl⟩
      generalize later u = w6 at *
      clear u
      clear hst hne
      simp only [fillAll, Act.put, List.setIfInBounds_toArray, List.set_cons_zero, List.set_cons_succ, List.drop_succ_cons, List.drop_zero, List.drop_nil]
      have z_w6 := b_w6.below.size
      have a_w6 := a_w5.trans b_w6
      have s0_w6 := any_own b_w6 s0_w5
      have r0_w6 := own_row s0_w6
      have f0_w6 := own_free s0_w6
      have l0_w6 := own_lt s0_w6
      (try clear r0_w5); (try clear f0_w5)
      go_wp2_with fail
      refine (HNx.out w6 (HO3.out.1.trans a_w6)).mono ?_
      rintro e w7 ⟨rfl, b_w7⟩
      have z_w7 := b_w7.below.size
      have a_w7 := a_w6.trans b_w7
      have s0_w7 := any_own b_w7 s0_w6
      have r0_w7 := own_row s0_w7
      have f0_w7 := own_free s0_w7
      have l0_w7 := own_lt s0_w7
      (try clear r0_w6); (try clear f0_w6)
      go_wp2_with fail
      refine (HPv.out w7 (HO3.out.1.trans a_w7)).mono ?_
      rintro e w8 ⟨rfl, b_w8⟩
      have z_w8 := b_w8.below.size
      have a_w8 := a_w7.trans b_w8
      have s0_w8 := any_own b_w8 s0_w7
      have r0_w8 := own_row s0_w8
      have f0_w8 := own_free s0_w8
      have l0_w8 := own_lt s0_w8
      (try clear r0_w7); (try clear f0_w7)
      go_wp2_with fail
      apply wp_region_free (10) [⟨3, 116, .int .i64 Z, false, fun v _ => v = .int .i64 Z⟩, ⟨7, 120, .int .i64 Y, false, fun v _ => v = .int .i64 Y⟩] [] rfl (by kernel_rfl) (by kernel_rfl) (by kernel_rfl) (by simp) (by kernel_rfl)
      case hstab =>
        intro c hc
        simp only [List.mem_cons, List.not_mem_nil, or_false] at hc
        rcases hc with rfl | rfl
        · intro v x y hxy hv; exact hv
        · intro v x y hxy hv; exact hv
      case hfix =>
        intro c hc
        simp only [List.mem_cons, List.not_mem_nil, or_false] at hc
        rcases hc with rfl | rfl
        · exact .inr fun u x h => h
        · exact .inr fun u x h => h
      case hlex =>
        intro U hU
        have q0 := own_row (any_own hU s0_w8)
        simp only [List.map_cons, List.map_nil, CA.act, actFrom, actOp, List.lookup, Nat.reduceBEq, Nat.reduceLeDiff, Nat.reduceAdd, if_false, if_true]
        repeat (go_big_quiet_step (fail))
        exact wpQuiet_nil rfl
      case hstep =>
        intro j hj o ho
        have hj2 : j = 0 ∨ j = 1 := by simp at hj; omega
        rcases hj2 with rfl | rfl
        · cases ho
          refine ⟨rfl, fun g x hx hp => ?_⟩
          clear hp
          simp only [fillAll, Act.put, List.setIfInBounds_toArray, List.set_cons_zero, List.set_cons_succ]
          refine chain_go ?_ (free_fix (HXN.out x (HO3.out.1.trans (a_w8.trans hx))))
          first | (simp [go_sem, execOp]; done) | simp [go_sem, execOp, hcf]
        · cases ho
          refine ⟨rfl, fun g x hx hp => ?_⟩
          clear hp
          simp only [fillAll, Act.put, List.setIfInBounds_toArray, List.set_cons_zero, List.set_cons_succ]
          refine chain_go ?_ (free_fix (HXP.out x (HO3.out.1.trans (a_w8.trans hx))))
          first | (simp [go_sem, execOp]; done) | simp [go_sem, execOp, hcf]
      case htail =>
        intro g u hst hne
        have b_w9 : AnyLater w8 (later u) := ⟨u, rfl⟩
        generalize later u = w9 at *
        clear u
        clear hst hne
        simp only [fillAll, Act.put, List.setIfInBounds_toArray, List.set_cons_zero, List.set_cons_succ, List.drop_succ_cons, List.drop_zero, List.drop_nil]
        have z_w9 := b_w9.below.size
        have a_w9 := a_w8.trans b_w9
        have s0_w9 := any_own b_w9 s0_w8
        have r0_w9 := own_row s0_w9
        have f0_w9 := own_free s0_w9
        have l0_w9 := own_lt s0_w9
        (try clear r0_w8); (try clear f0_w8)
        have HA9 := Lib.hid (HA.out.trans (HO3.out.1.trans a_w9))
        obtain ⟨h5, h6⟩ := HNI.out
        clear HNI HLi HFd HTop HSu1 HTot HSu2 HNx HPv HXN HXP HSh HO3
        rcases h5 with ⟨rfl, z1, rfl⟩ | ⟨rfl, z1, rfl⟩ <;> rcases h6 with ⟨rfl, z2, rfl⟩ | ⟨rfl, z2, rfl⟩
        · have e1 : decide (0 ≤ nx) = true := decide_eq_true z1
          have e2 : decide (0 ≤ pv) = true := decide_eq_true z2
          go_wp2_with fail
          refine (HLv.out _).mono ?_
          rintro e w10 ⟨rfl, b10⟩
          have HB := Lib.hid (HA9.out.trans b10)
          clear b10
          go_wp2_with fail
          go_ret
          exact ⟨rfl, HB.out⟩
        · have e1 : decide (0 ≤ nx) = true := decide_eq_true z1
          have e2 : decide (0 ≤ Y) = false := decide_eq_false (by omega)
          go_wp2_with fail
          refine (HLv.out _).mono ?_
          rintro e w10 ⟨rfl, b10⟩
          have HB := Lib.hid (HA9.out.trans b10)
          clear b10
          go_wp2_with fail
          go_ret
          exact ⟨rfl, HB.out⟩
        · have e1 : decide (0 ≤ Z) = false := decide_eq_false (by omega)
          have e2 : decide (0 ≤ pv) = true := decide_eq_true z2
          go_wp2_with fail
          refine (HLv.out _).mono ?_
          rintro e w10 ⟨rfl, b10⟩
          have HB := Lib.hid (HA9.out.trans b10)
          clear b10
          go_wp2_with fail
          go_ret
          exact ⟨rfl, HB.out⟩
        · have e1 : decide (0 ≤ Z) = false := decide_eq_false (by omega)
          have e2 : decide (0 ≤ Y) = false := decide_eq_false (by omega)
          go_wp2_with fail
          refine (HLv.out _).mono ?_
          rintro e w10 ⟨rfl, b10⟩
          have HB := Lib.hid (HA9.out.trans b10)
          clear b10
          go_wp2_with fail
          go_ret
          exact ⟨rfl, HB.out⟩
theorem heightsFind_any (v av : Value) (l : Qs) (acs : List HAM) (a0 a1 : Int) (w : World) (hv : QR w v l) (ha : HAcS w av acs) (h0 : a0 ≤ 9223372036854775807) (h1 : -9223372036854775808 ≤ a1) : Calls Try.prog 4 #[v, av, .agg #[.int .i64 a0, .int .i64 a1]] w fun e w' => e = .returned (.bool true) ∧ AnyLater w w' := by
  cases hb : (l.take 30).any tlBad with
  | true => exact heightsFind_bad v av l _ acs a0 a1 w rfl hv ha hb
  | false => exact heightsFind_yes v av l _ acs a0 a1 w rfl hv ha h0 h1 hb
end Go.Proofs.Ytjoadlfkdkeomaa
