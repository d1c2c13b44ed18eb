/- text: TextPlaces, walked. -/
import Derived.Test.YtdhgombgbjldgaaTxtD
import Derived.Test.YtdhgombgbjldgaaTxtQ
import Derived.Test.YtdhgombgbjldgaaWild
import Derived.Deep.QuietTactic
namespace Go.Proofs.Ytdhgombgbjldgaa
set_option linter.unusedSimpArgs false
set_option linter.unusedVariables false
set_option linter.unusedSectionVars false
open Go.RowKit

set_option maxRecDepth 100000 in
set_option maxHeartbeats 6400000 in
theorem textPlaces_any (w : World) (v lv : Value) (b : List Int) (l : List AM) (a0 a1 a2 : Int) (hb : RN .u8 w v b) (hby : Bytes b) (hv : RAct w lv l) (r1 : I64r a0) (r2 : I64r a1) (r3 : I64r a2) :
    Calls Try.prog 6 #[v, lv, .agg #[.int .i64 a0, .int .i64 a1, .int .i64 a2]] w fun e w' => e = .returned (.bool true) ∧ AnyLater w w' := by
  have HMd := Lib.hid (fun (w' : World) (a : AnyLater w w') => tmade_any w' v lv b l (hb.later a) hby (hv.later a))
  obtain ⟨Ab, capb, rfl, -⟩ := hb.form
  obtain ⟨Av, capv, rfl, -, -⟩ := hv
  have HV := Lib.hid tlives
  obtain ⟨a0l, a0h⟩ := r1
  obtain ⟨a1l, a1h⟩ := r2
  obtain ⟨a2l, a2h⟩ := r3
  clear hb hby
  generalize b.length = nb at *
  generalize l.length = nl at *
  go_enter Try.func6, Try.ntmps6
  go_wp2_with fail
  first | refine settle_wp (fun wS => AnyLater w wS ∧ wS.heap[w.heap.size]? = some (.cells #[.int .i64 a0, .int .i64 a1, .int .i64 a2] 59)) ?_ ?_ | refine settle_calls (fun wS => AnyLater w wS ∧ wS.heap[w.heap.size]? = some (.cells #[.int .i64 a0, .int .i64 a1, .int .i64 a2] 59)) ?_ ?_
  · refine ⟨?_, ?_⟩
    · repeat' (first | with_reducible assumption | with_reducible exact AnyLater.refl _ | with_reducible apply AnyLater.setCell | with_reducible apply AnyLater.later | with_reducible apply AnyLater.drewN | with_reducible apply AnyLater.drew | with_reducible apply AnyLater.alloc | ((try simp only [World.size_alloc, World.size_setCell, World.size_drew]); (try dsimp only); omega))
    · ((repeat (first | with_reducible assumption | ((with_reducible apply heap_new); (try simp only [World.size_alloc, World.size_setCell, World.size_drew, World.heap_drewN]); done) | ((with_reducible apply heap_new); (try simp only [World.size_alloc, World.size_setCell, World.size_drew, World.heap_drewN]); omega) | (with_reducible refine heap_old (by (try simp only [World.size_alloc, World.size_setCell, World.size_drew, World.heap_drewN]); omega) ?_) | (with_reducible refine heap_drew ?_) | (with_reducible refine heap_far (by omega) ?_) | (with_reducible apply heap_at))); all_goals rfl)
  rintro w1 ⟨b_w1, s0_w1⟩
  have a_w1 := b_w1
  have r0_w1 := own_row s0_w1
  have f0_w1 := own_free s0_w1
  have l0_w1 := own_lt s0_w1
  have z_w1 := b_w1.below.size
  refine (HMd.out _ a_w1).mono ?_
  rintro e w2 ⟨tg, g, xb, rfl, b_w2, t, L, h2, ok, hbs, hxb, hby, hlen⟩
  have a_w1' := a_w1
  have b_w2' := b_w2
  have z_w2 := b_w2.below.size
  have a_w2 := a_w1.trans b_w2
  have s0_w2 := any_own b_w2 s0_w1
  have r0_w2 := own_row s0_w2
  have f0_w2 := own_free s0_w2
  have l0_w2 := own_lt s0_w2
  (try clear r0_w1); (try clear f0_w1)
  obtain ⟨Ax, capx, ex, -⟩ := RT.form hxb
  have htl : t.len = L.length := by rw [← Tr.len_bs, hbs]
  have hfd : fds t = feN 0 L := by unfold fds; rw [hbs]
  have htf : t.nf = (feN 0 L).length := by rw [← hfd, fds_len]
  have hF := feedsOk L
  have HLn := Lib.hid (fun (w' : World) (a : AnyLater w2 w') => xlines_any xb L _ w' rfl (hxb.rn.later a) (by omega))
  have HT := Lib.hid (fun (w' : World) (a : AnyLater w2 w') => h2.later a)
  have hnn := hF.nn
  have HF := Lib.hid hF
  have HOK := Lib.hid ok
  have HOno := Lib.hid (fun (w' : World) (a : AnyLater w2 w') (q : ¬ (0 ≤ a1 ∧ a1 < ((feN 0 L).length + 1 : Nat))) => toffset_no _ t (t.nf + 1) a1 a2 w' (h2.later a).tl ok (by rw [htf]; exact q))
  have HOout := Lib.hid (fun (w' : World) (j : Nat) (a : AnyLater w2 w') (q1 : j ≤ (feN 0 L).length) (q2 : a2 < 0 ∨ lnE (feN 0 L) L.length j - lnS (feN 0 L) j < a2) => toffset_out tg g 2000 t j a2 _ _ w' (h2.later a) ok (by omega) rfl rfl (by rw [hfd, htl]; have := hF.s0 q1; have := hF.se q1; have := hF.en q1; omega) (by rw [hfd, htl]; exact q2))
  have HOyes : Hid (∀ (w' : World) (j : Nat), AnyLater w2 w' → j ≤ (feN 0 L).length → (0 ≤ a2 ∧ a2 ≤ lnE (feN 0 L) L.length j - lnS (feN 0 L) j) → Calls Try.prog 32 #[.pointer (some ⟨tg, 0, none⟩), .int .i64 (j : Int), .int .i64 a2] w' fun e w'' => e = .returned (.tuple #[.int .i64 (lnS (feN 0 L) j + a2), .bool true]) ∧ AnyLater w' w'') := Lib.hid (fun w' j a q1 q2 => toffset_yes tg g 2000 t j a2 _ _ w' (h2.later a) ok (by omega) (by rw [hfd]) (by rw [hfd, htl]) (by have := hF.s0 q1; have := hF.se q1; have := hF.en q1; omega) q2)
  by_cases hin : 0 ≤ a0 ∧ a0 ≤ L.length
  case' pos =>
    obtain ⟨x, rfl⟩ := Int.eq_ofNat_of_zero_le hin.1
    have hxl : x ≤ L.length := by omega
    obtain ⟨k, hk⟩ : ∃ k, below (x : Int) (feN 0 L) = k := ⟨_, rfl⟩
    obtain ⟨s, hs⟩ : ∃ s, lnS (feN 0 L) k = s := ⟨_, rfl⟩
    have hbl := below_ln (F := feN 0 L) (n := L.length) (x := (x : Int)) (by omega) (by omega)
    rw [hk, hs] at hbl
    obtain ⟨kl, sx, xe, -⟩ := hbl
    have s0 : 0 ≤ s := by rw [← hs]; exact hF.s0 kl
    have een := hF.en kl
    have HP := Lib.hid (fun (w' : World) (a : AnyLater w2 w') => tplace_yes tg g 2000 t x k s w' (h2.later a) ok (by omega) (by rw [hfd]; exact hk) (by rw [hfd]; exact hs) ⟨s0, sx⟩ (by omega))
    have HXl := Lib.hid (fun (w' : World) (a : AnyLater w2 w') => xline_any xb L (x : Int) k w' hk ⟨by omega, by omega⟩ (hxb.rn.later a) (by omega))
    have HOf : Hid (∀ w', AnyLater w2 w' → Calls Try.prog 32 #[.pointer (some ⟨tg, 0, none⟩), .int .i64 (k : Int), .int .i64 ((x : Int) - s)] w' fun e w'' => e = .returned (.tuple #[.int .i64 (x : Int), .bool true]) ∧ AnyLater w' w'') := Lib.hid (fun w' a => by
      have := toffset_yes tg g 2000 t k ((x : Int) - s) s _ w' (h2.later a) ok (by omega) (by rw [hfd]; exact hs) rfl (by rw [hfd, htl]; omega) (by rw [hfd, htl]; omega)
      rwa [show s + ((x : Int) - s) = (x : Int) by omega] at this)
    have HSk := Lib.hid (And.intro kl hs)
  case' neg =>
    have HP := Lib.hid (fun (w' : World) (a : AnyLater w2 w') => tplace_no tg g 2000 t a0 w' (h2.later a) (by omega))
  all_goals
    subst ex
    clear hxb h2 ok hby hbs hF hfd htl htf
    generalize feN 0 L = F at *
  case' pos =>
    generalize L.length = n at *
    generalize hnF : F.length = nF at *
    have HNF := Lib.hid hnF
    clear hnF hk hs xe een
    go_wp2_with fail
    refine (HP.out _ (AnyLater.refl _)).mono ?_
    rintro e w3 ⟨rfl, b_w3⟩
    have z_w3 := b_w3.below.size
    have a_w3 := a_w2.trans b_w3
    have s0_w3 := any_own b_w3 s0_w2
    have r0_w3 := own_row s0_w3
    have f0_w3 := own_free s0_w3
    have l0_w3 := own_lt s0_w3
    (try clear r0_w2); (try clear f0_w2)
    go_wp2_with fail
    refine (HLn.out _ b_w3).mono ?_
    rintro e w4 ⟨u4, rfl, b_w4, o4⟩
    obtain ⟨A4, cap4, rfl, hcap4, hc4⟩ := o4.reads.at
    have z_w4 := b_w4.below.size
    have a_w4 := a_w3.trans b_w4
    have s0_w4 := any_own b_w4 s0_w3
    have r0_w4 := own_row s0_w4
    have f0_w4 := own_free s0_w4
    have l0_w4 := own_lt s0_w4
    (try clear r0_w3); (try clear f0_w3)
    have HC4 := Lib.hid hc4
    have H24 := Lib.hid (b_w3.trans b_w4)
    rw [HNF.out] at hcap4 HC4 ⊢
    clear hc4 o4
    have d0 : decide ((x : Int) < 0) = false := decide_eq_false (by omega)
    have d1 : decide ((n : Int) < (x : Int)) = false := decide_eq_false (by omega)
    have d2 : decide (n < x) = false := decide_eq_false (by omega)
    go_wp2_with fail
    refine (HXl.out _ H24.out).mono ?_
    rintro e w5 ⟨rfl, b_w5⟩
    have z_w5 := b_w5.below.size
    have a_w5 := a_w4.trans b_w5
    have s0_w5 := any_own b_w5 s0_w4
    have r0_w5 := own_row s0_w5
    have f0_w5 := own_free s0_w5
    have l0_w5 := own_lt s0_w5
    (try clear r0_w4); (try clear f0_w4)
    have H25 := Lib.hid (H24.out.trans b_w5)
    go_wp2_with fail
    refine (HOf.out _ H25.out).mono ?_
    rintro e w6 ⟨rfl, b_w6⟩
    have z_w6 := b_w6.below.size
    have a_w6 := a_w5.trans b_w6
    have s0_w6 := any_own b_w6 s0_w5
    have r0_w6 := own_row s0_w6
    have f0_w6 := own_free s0_w6
    have l0_w6 := own_lt s0_w6
    (try clear r0_w5); (try clear f0_w5)
    have H46 := Lib.hid (b_w5.trans b_w6)
    obtain ⟨b9, off9, rfl, -, c9, -⟩ := HC4.out k (by have := HSk.out.1; have := HNF.out; omega)
    rw [HSk.out.2] at c9
    have c9 := cell_on H46.out c9
    clear d0 d1 d2
    have d1 : (k : Int) < ((nF + 1 : Nat) : Int) := by have := HSk.out.1; have := HNF.out; omega
    have d2 : k < nF + 1 := by have := HSk.out.1; have := HNF.out; omega
    have hxs : 0 ≤ s := s0
    clear b_w3 b_w4 b_w5 b_w6 z_w2 z_w3 z_w4 z_w5 z_w6 a_w1 a_w2 a_w3 a_w4 a_w5
    go_wp2_with fail
    go_quiet (fail)
    go_upto_region 13 with fail
    have a9 : AnyLater w4 (w6.drewN nq) := H46.out.drewN _
    generalize w6.drewN nq = w9 at *
    clear d1 d2 c9 hxs sx s0 hin hxl kl
  case' neg =>
    generalize L.length = n at *
    generalize hnF : F.length = nF at *
    have HNF := Lib.hid hnF
    clear hnF
    go_wp2_with fail
    refine (HP.out _ (AnyLater.refl _)).mono ?_
    rintro e w3 ⟨rfl, b_w3⟩
    have z_w3 := b_w3.below.size
    have a_w3 := a_w2.trans b_w3
    have s0_w3 := any_own b_w3 s0_w2
    have r0_w3 := own_row s0_w3
    have f0_w3 := own_free s0_w3
    have l0_w3 := own_lt s0_w3
    (try clear r0_w2); (try clear f0_w2)
    go_wp2_with fail
    refine (HLn.out _ b_w3).mono ?_
    rintro e w4 ⟨u4, rfl, b_w4, o4⟩
    obtain ⟨A4, cap4, rfl, hcap4, hc4⟩ := o4.reads.at
    have z_w4 := b_w4.below.size
    have a_w4 := a_w3.trans b_w4
    have s0_w4 := any_own b_w4 s0_w3
    have r0_w4 := own_row s0_w4
    have f0_w4 := own_free s0_w4
    have l0_w4 := own_lt s0_w4
    (try clear r0_w3); (try clear f0_w3)
    have HC4 := Lib.hid hc4
    have H24 := Lib.hid (b_w3.trans b_w4)
    rw [HNF.out] at hcap4 HC4 ⊢
    clear hc4 o4 b_w3 b_w4 z_w2 z_w3 z_w4 a_w1 a_w2 a_w3 a_w4
    by_cases h0 : a0 < 0
    case' pos =>
      clear hin
      go_upto_region 13 with fail
    case' neg =>
      have d0 : decide (a0 < 0) = false := decide_eq_false h0
      have d1 : (n : Int) < a0 := by omega
      clear hin
      go_upto_region 13 with fail
    all_goals
      have a9 : AnyLater w4 w4 := AnyLater.refl _
      generalize hw9 : w4 = w9 at ⊢
      have a9 : AnyLater w4 w9 := by rw [← hw9]; exact a9
      clear hw9
  all_goals
    have H29 := Lib.hid (H24.out.trans a9)
    have H49 := Lib.hid a9
    have s0_w9 := any_own a9 s0_w4
    have r0_w9 := own_row s0_w9
    have HS9 := Lib.hid s0_w9
    have H19 := Lib.hid (a_w1'.trans (b_w2'.trans H29.out))
    (try clear r0_w4)
    (try clear f0_w4)
    clear a9 s0_w9 s0_w4
    by_cases hin : 0 ≤ a1 ∧ a1 < ((nF + 1 : Nat) : Int)
    · obtain ⟨j, rfl⟩ := Int.eq_ofNat_of_zero_le hin.1
      have hj : j ≤ nF := by omega
      have hjF : j ≤ F.length := by rw [HNF.out]; exact hj
      have q1 := HF.out.s0 hjF
      have q2 := HF.out.se hjF
      have q3 := HF.out.en hjF
      obtain ⟨b8, off8, e8, -, c8, c9⟩ := HC4.out j hj
      cases e8
      have c8 := cell_on H49.out c8
      have c9 := cell_on H49.out c9
      have d0 : decide ((j : Int) < 0) = false := decide_eq_false (by omega)
      have d1 : decide (((nF + 1 : Nat) : Int) ≤ (j : Int)) = false := decide_eq_false (by omega)
      have d2 : decide (nF + 1 ≤ j) = false := decide_eq_false (by omega)
      have d7 : decide ((nF : Int) + 1 ≤ (j : Int)) = false := decide_eq_false (by omega)
      have d8 : decide (nF < j) = false := decide_eq_false (by omega)
      have d3 : (j : Int) < ((nF + 1 : Nat) : Int) := by omega
      have d4 : j < nF + 1 := by omega
      by_cases hc : 0 ≤ a2 ∧ a2 ≤ lnE F n j - lnS F j
      · have HO := Lib.hid (HOyes.out w9 j H29.out hj hc)
        obtain ⟨hc1, hc2⟩ := hc
        generalize lnE F n j = E at *
        generalize lnS F j = B at *
        have d5 : decide (a2 < 0) = false := decide_eq_false (by omega)
        have d6 : decide (E - B < a2) = false := decide_eq_false (by omega)
        clear hin hjF
        go_wp2_with fail
        refine HO.out.mono ?_
        rintro e wa ⟨rfl, b_wa⟩
        have s0_wa := any_own b_wa HS9.out
        have r0_wa := own_row s0_wa
        have c8 := cell_on b_wa c8
        have c9 := cell_on b_wa c9
        have HA := Lib.hid (H19.out.trans b_wa)
        clear r0_w9 b_wa
        go_wp2_with fail
        go_quiet (fail)
        go_wp2_with fail
        have b_wd : AnyLater wa (wa.drewN nq) := (AnyLater.refl wa).drewN nq
        have c8 := cell_on b_wd c8
        have c9 := cell_on b_wd c9
        have a_wa := HA.out
        generalize wa.drewN nq = wd at *
        have s0_wd := any_own b_wd s0_wa
        have a_wd := a_wa.trans b_wd
        clear r0_wa s0_wa b_wd a_wa
        apply Wild.wp_region_free (16) [⟨15, 163, .bool true, false, fun v _ => v = .bool true⟩] [] rfl (by kernel_rfl) (by kernel_rfl) (by kernel_rfl) (by simp) (by kernel_rfl)
        case hstab =>
          intro c hc
          simp only [List.mem_cons, List.not_mem_nil, or_false] at hc
          rcases hc with rfl
          · intro v x y hxy hv; exact hv
        case hfix =>
          intro c hc
          simp only [List.mem_cons, List.not_mem_nil, or_false] at hc
          rcases hc with rfl
          · exact .inr fun u x h => h
        case hlex =>
          intro U hU
          have q0 := own_row (any_own hU s0_wd)
          have q_c8 := cell_on hU c8
          have q_c9 := cell_on hU c9
          simp only [List.map_cons, List.map_nil, CA.act, actFrom, actOp, List.lookup, Nat.reduceBEq, Nat.reduceLeDiff, Nat.reduceAdd, if_false, if_true]
          repeat (go_big_quiet_step (fail))
          exact wpQuiet_nil rfl
        case hstep =>
          intro j hj o ho
          have hj2 : j = 0 := by simp at hj; omega
          rcases hj2 with rfl
          · cases ho
            refine ⟨rfl, fun g x hx hp => ?_⟩
            clear hp
            simp only [fillAll, Act.put, List.setIfInBounds_toArray, List.set_cons_zero, List.set_cons_succ]
            refine chain_go ?_ (Wild.free_fix (HV.out x))
            simp [go_sem, execOp]
        case htail =>
          intro g u hst hne
          have b_we : AnyLater wd (later u) := ⟨u, rfl⟩
          generalize later u = we at *
          clear u hne
          clear hst
          simp only [fillAll, Act.put, List.setIfInBounds_toArray, List.set_cons_zero, List.set_cons_succ, List.drop_succ_cons, List.drop_zero, List.drop_nil]
          have z_we := b_we.below.size
          have a_we := a_wd.trans b_we
          have s0_we := any_own b_we s0_wd
          have r0_we := own_row s0_we
          have f0_we := own_free s0_we
          have l0_we := own_lt s0_we
          (try clear r0_wd); (try clear f0_wd)
          have c8_we := cell_on b_we c8
          have c9_we := cell_on b_we c9
          go_wp2_with fail
          go_ret
          exact ⟨rfl, a_we⟩
      · have hc2 : a2 < 0 ∨ lnE F n j - lnS F j < a2 := by omega
        have HO := Lib.hid (HOout.out w9 j H29.out hj hc2)
        generalize lnE F n j = E at *
        generalize lnS F j = B at *
        clear hin hjF hc
        go_wp2_with fail
        refine HO.out.mono ?_
        rintro e wa ⟨rfl, b_wa⟩
        have s0_wa := any_own b_wa HS9.out
        have r0_wa := own_row s0_wa
        have c8 := cell_on b_wa c8
        have c9 := cell_on b_wa c9
        have HA := Lib.hid (H19.out.trans b_wa)
        clear r0_w9 b_wa
        by_cases h2 : a2 < 0
        case' pos =>
          clear hc2
          go_wp2_with fail
          go_quiet (fail)
          go_wp2_with fail
        case' neg =>
          have d5 : decide (a2 < 0) = false := decide_eq_false h2
          have d6 : E - B < a2 := by omega
          clear hc2
          go_wp2_with fail
          go_quiet (fail)
          go_wp2_with fail
        all_goals
          refine (HV.out _).mono ?_
          rintro e wb ⟨rfl, b_wb⟩
          have HB := Lib.hid ((HA.out.drewN nq).trans b_wb)
          clear b_wb
          go_wp2_with fail
          go_ret
          exact ⟨rfl, HB.out⟩
    · have HO := Lib.hid (HOno.out w9 H29.out hin)
      go_wp2_with fail
      refine HO.out.mono ?_
      rintro e wa ⟨rfl, b_wa⟩
      have s0_wa := any_own b_wa HS9.out
      have r0_wa := own_row s0_wa
      have HA := Lib.hid (H19.out.trans b_wa)
      clear r0_w9 b_wa
      by_cases h2 : a1 < 0
      case' pos =>
        clear hin
        go_wp2_with fail
        go_quiet (fail)
        go_wp2_with fail
      case' neg =>
        have d5 : decide (a1 < 0) = false := decide_eq_false h2
        have d6 : decide ((nF : Int) + 1 ≤ a1) = true := decide_eq_true (by omega)
        clear hin
        go_wp2_with fail
        go_quiet (fail)
        go_wp2_with fail
      all_goals
        refine (HV.out _).mono ?_
        rintro e wb ⟨rfl, b_wb⟩
        have HB := Lib.hid ((HA.out.drewN nq).trans b_wb)
        clear b_wb
        go_wp2_with fail
        go_ret
        exact ⟨rfl, HB.out⟩
end Go.Proofs.Ytdhgombgbjldgaa
