/- heights: which lines there are behind any calls. -/
import Derived.Test.YtjoadlfkdkeomaaHgtX
import Derived.LoopN
import Derived.Deep.LoopGhost
import Derived.BigRegion
import Derived.RegionTactic
import Derived.Shelf.Abstract
import Derived.ChangeKeysEq
import Derived.Deep.DeepCutAuto
import Derived.Deep.CutBlock
namespace Go.Proofs.Ytjoadlfkdkeomaa
set_option linter.unusedSimpArgs false
set_option linter.unusedVariables false
set_option linter.unusedSectionVars false
open Go.RowKit
variable {B : Nat}

set_option maxRecDepth 100000 in
set_option maxHeartbeats 1600000 in
theorem heightsPlay_bad (v av : Value) (l m : Qs) (acs : List HAM) (w : World) (hm : l.take 30 = m) (hv : QR w v l) (ha : HAcS w av acs) (hb : m.any tlBad = true) : Calls Try.prog 3 #[v, av] w fun e w' => e = .returned (.bool true) ∧ AnyLater w w' := by
  have hm30 : m.length ≤ 30 := by rw [← hm, List.length_take]; omega
  have HBe := Lib.hid (hbegin_bad v l m w hm hv hb)
  have HF := Lib.hid (fun (W : World) (a : AnyLater w W) => htfew_any v l m W hm (hv.later a))
  have HA := Lib.hid (fun (W : World) (u : Value) (h : QR W u m) => rall_any u m false W (by rw [hb]; rfl) h (by omega))
  have HLv := Lib.hid (fun w' => hlives_any w')
  obtain ⟨A, cap, rfl, -⟩ := hv.form
  obtain ⟨A2, cap2, rfl, -, -⟩ := ha
  clear hv hm hb hm30
  generalize l.length = n at *
  generalize acs.length = n2 at *
  go_enter Try.func3, Try.ntmps3
  go_wp2_with fail
  refine HBe.out.mono ?_
  rintro e w1 ⟨xg, rfl, b1⟩
  have B1 := Lib.hid b1
  clear b1
  go_wp2_with fail
  refine (HF.out w1 B1.out).mono ?_
  rintro e w2 ⟨u2, rfl, b2, o2⟩
  have B2 := Lib.hid (And.intro (B1.out.trans b2) (OQ.rq o2))
  obtain ⟨A3, cap3, rfl, -⟩ := (OQ.rq o2).form
  clear b2 o2
  go_wp2_with fail
  refine (HA.out w2 _ B2.out.2).mono ?_
  rintro e w3 ⟨rfl, b3⟩
  have B3 := Lib.hid (B2.out.1.trans b3)
  clear b3
  go_wp2_with fail
  refine (HLv.out w3).mono ?_
  rintro e w4 ⟨rfl, b4⟩
  have B4 := Lib.hid (B3.out.trans b4)
  clear b4
  go_wp2_with fail
  go_ret
  exact ⟨rfl, B4.out⟩
set_option maxRecDepth 100000 in
set_option maxHeartbeats 6400000 in
theorem heightsPlay_yes (v av : Value) (l m : Qs) (acs : List HAM) (w : World) (hm : l.take 30 = m) (hv : QR w v l) (ha : HAcS w av acs) (hb : m.any tlBad = false) : Calls Try.prog 3 #[v, av] w fun e w' => e = .returned (.bool true) ∧ AnyLater w w' := by
  have hm30 : m.length ≤ 30 := by rw [← hm, List.length_take]; omega
  have HBe := Lib.hid (hbegin_yes v l m w hm hv hb)
  have HF := Lib.hid (fun (W : World) (a : AnyLater w W) => htfew_any v l m W hm (hv.later a))
  have HA := Lib.hid (fun (W : World) (u : Value) (h : QR W u m) => rall_any u m true W (by rw [hb]; rfl) h (by omega))
  have HLv := Lib.hid (fun w' => hlives_any w')
  have ez := neqTall
  have gz := guard_tall
  obtain ⟨A, cap, rfl, -⟩ := hv.form
  obtain ⟨Av, capv, rfl, hav, hac⟩ := ha
  have HAV := Lib.hid (And.intro hav hac)
  clear hv hm hb hav hac
  generalize l.length = n at *
  obtain ⟨nl, hnl⟩ : ∃ nl, acs.length = nl := ⟨_, rfl⟩
  have HNL := Lib.hid hnl
  rw [hnl]
  clear hnl
  go_enter Try.func3, Try.ntmps3
  go_wp2_with fail
  refine HBe.out.mono ?_
  rintro e w1 ⟨hg, xg, K0, rL0, rH0, rfl, b1, q1⟩
  have H1 := Lib.hid (And.intro b1 q1)
  clear b1 q1 HBe
  go_wp2_with fail
  refine (HF.out w1 H1.out.1).mono ?_
  rintro e w2 ⟨u2, rfl, b2, o2⟩
  have B2 := Lib.hid (And.intro b2 (OQ.rq o2))
  obtain ⟨A3, cap3, rfl, -⟩ := (OQ.rq o2).form
  clear b2 o2
  go_wp2_with fail
  refine (HA.out w2 _ B2.out.2).mono ?_
  rintro e w3 ⟨rfl, b3⟩
  have H3 : Hid (HOn w hg xg 30 w3) := Lib.hid (by
    have a := B2.out.1.trans b3
    exact ⟨H1.out.1.trans a, K0, rL0, rH0, _, _, H1.out.2.later a, hm30⟩)
  clear b3 H1 B2 HF HA hm30
  generalize m.length = ml at *
  go_upto_block 0 with fail
  go_cut [] (fun wx => ∃ n, Hid (HOn w hg xg n wx ∧ n ≤ 2000))
  case first =>
    go_wp2_with fail
    go_loopg [8] nl (fun kk iv wr => ∃ i : Nat, kk = nl - i ∧ i ≤ nl ∧ i ≤ 50 ∧ iv = .int .i64 i ∧ Hid (HOn w hg xg (30 + 30 * i) wr))
    case atStart => exact ⟨0, by omega, by omega, by omega, rfl, Lib.hid H3.out⟩
    case round =>
      obtain ⟨i, hk, hi, hi50, rfl, HI⟩ := hrel
      by_cases hlt : i < nl ∧ i < 50
      · obtain ⟨h1, h2⟩ := hlt
        have hil : i < acs.length := by rw [HNL.out]; exact h1
        obtain ⟨b0, off, rfl, hb0, hcs⟩ := HAV.out.2 (by omega)
        obtain ⟨c0, c1, c2, c3, c4, c5, c6⟩ := hcs i hil
        have aw := HI.out.1
        have c0 := cell_on aw c0
        have c1 := cell_on aw c1
        have c2 := cell_on aw c2
        have c3 := cell_on aw c3
        have c4 := cell_on aw c4
        have c5 := cell_on aw c5
        have c6 := cell_on aw c6
        have d0 : (i : Int) < (nl : Int) := by omega
        have d1 : (i : Int) < 50 := by omega
        have hAl := HAV.out.1 i hil
        generalize acs[i] = Ai at *
        obtain ⟨k4, i4, n4, x4, y4, v4, l4, on4⟩ := Ai
        simp only at c0 c1 c2 c3 c4 c5 c6 hAl
        have HDo : Hid (∀ W, AnyLater wr W → Calls Try.prog 11 #[.pointer (some ⟨hg, 0, none⟩), .pointer (some ⟨xg, 0, none⟩), .agg #[.int .i64 k4, .int .i64 i4, .int .i64 n4, .int .i64 x4, .int .i64 y4, v4, .bool on4]] W fun e W' => e = .returned (.bool true) ∧ HOn w hg xg (30 + 30 * (i + 1)) W') := Lib.hid (fun W a => by
          obtain ⟨a0, K, rL, rH, L, H, q, hl⟩ := HI.out
          refine (hdoes_any hg xg K rL rH L l4 H k4 i4 n4 x4 y4 v4 on4 W (q.later a) (by omega) w (Nat.le_refl _) (a0.trans a) hAl).mono ?_
          intro e W' hq
          have := HOn.step (a0.trans a) hq hl
          rw [show 30 + 30 * (i + 1) = 30 + 30 * i + 30 by omega]
          exact this)
        obtain ⟨A5, cap5, rfl, -⟩ := hAl.form
        clear hcs hil aw hAl HI
        generalize l4.length = ll at *
        go_upto_region 9 with fail
        go_cut [62] (fun cv wx => cv = .bool false ∧ Hid (HOn w hg xg (30 + 30 * (i + 1)) wx))
        case first =>
          go_wp2_with fail
          go_region_with (first | (go_at_call 11; refine (HDo.out _ (by repeat' (first | with_reducible assumption | with_reducible exact AnyLater.refl _ | with_reducible apply AnyLater.later | with_reducible apply AnyLater.drewN | with_reducible apply AnyLater.drew | with_reducible apply AnyLater.alloc))).mono ?_; rintro e w5 ⟨rfl, q5⟩; have H5 := Lib.hid q5; obtain ⟨a5, K5, rL5, rH5, L5, HB5, qx5, hl5⟩ := q5; obtain ⟨A6, c6', A7, c7', s5, -⟩ := qx5.x.form; have HLn := Lib.hid (fun (W : World) (a : AnyLater w5 W) => hglen_any (.pointer (some ⟨hg, 0, none⟩)) L5 HB5 W (qx5.h.v.later a)); have r5 := own_row s5; have l5 := own_lt s5; clear a5 qx5 hl5 c0 c1 c2 c3 c4 c5 c6; generalize L5.length = n5 at *) | (go_at_call 12; refine (HLn.out _ (by repeat' (first | with_reducible assumption | with_reducible exact AnyLater.refl _ | with_reducible apply AnyLater.later | with_reducible apply AnyLater.drewN | with_reducible apply AnyLater.drew | with_reducible apply AnyLater.alloc))).mono ?_; rintro e w6 ⟨rfl, b6⟩; have r6 := own_row (any_own b6 s5); have l6 := own_lt (any_own b6 s5)))
          all_goals
            have HQ := Lib.hid (H5.out.later (by repeat' (first | with_reducible assumption | with_reducible exact AnyLater.refl _ | with_reducible apply AnyLater.later | with_reducible apply AnyLater.drewN | with_reducible apply AnyLater.drew | with_reducible apply AnyLater.alloc)))
            clear H5 HLn
            go_wp2_with fail
            go_meet
            case rel => exact ⟨rfl, HQ⟩
        case rest =>
          generalize wc = w5 at *
          obtain ⟨rfl, H5⟩ := hcut
          obtain ⟨a5, K5, rL5, rH5, L5, HB5, qx5, hl5⟩ := H5.out
          have HB := Lib.hid a5
          have HQ5 := Lib.hid qx5
          have HL5 := Lib.hid hl5
          have hBl : HB5.length = L5.length := qx5.x.len
          obtain ⟨A6, k6, A7, k7, sx, oL, oH, -, -⟩ := qx5.x.form
          have HqL := Lib.hid (OQ.rq oL)
          have HqH := Lib.hid (OB.rb oH)
          obtain ⟨n5, hn5⟩ : ∃ n5, L5.length = n5 := ⟨_, rfl⟩
          rw [hn5] at sx HqL HqH
          have HN5 := Lib.hid hn5
          have HBL := Lib.hid (hBl.trans hn5)
          have r5 := own_row sx
          have l5 := own_lt sx
          have HSX := Lib.hid sx
          clear a5 qx5 hl5 oL oH hBl hn5 sx c0 c1 c2 c3 c4 c5 c6
          go_wp2_with fail
          go_loopg [9] n5 (fun kk jv wx => ∃ j : Nat, kk = n5 - j ∧ j ≤ n5 ∧ jv = .int .i64 j ∧ Hid (AnyLater w5 wx))
          case atStart => exact ⟨0, by omega, by omega, rfl, Lib.hid (AnyLater.refl _)⟩
          case round =>
            obtain ⟨j, hkj, hj, rfl, HJ⟩ := hrel
            have sx := any_own HJ.out HSX.out
            have r0_wr := own_row sx
            have l0_wr := own_lt sx
            clear r5 l5
            by_cases hjl : j < n5
            · have hjL : j < L5.length := by rw [HN5.out]; exact hjl
              have hjH : j < HB5.length := by rw [HBL.out]; exact hjl
              obtain ⟨b6, off6, e6, hb6, cy0, cy1⟩ := HqL.out.at j hjL
              obtain ⟨b7, off7, e7, hb7, cy2⟩ := HqH.out.at j hjH
              subst e6
              subst e7
              have cy0 := cell_on HJ.out cy0
              have cy1 := cell_on HJ.out cy1
              have cy2 := cell_on HJ.out cy2
              have HFu := Lib.hid (hgfull_any (.pointer (some ⟨hg, 0, none⟩)) L5 HB5 (j : Int) wr _ (getV_in hjL) (HQ5.out.later HJ.out).h.v)
              have HHi := Lib.hid (fun (W : World) (a : AnyLater wr W) => hghidden_any (.pointer (some ⟨hg, 0, none⟩)) L5 HB5 (j : Int) W ((HQ5.out.later HJ.out).later a).h.v)
              rw [hidB_at hjH] at HHi
              generalize L5[j] = X at *
              obtain ⟨p0, p1⟩ := X
              simp only at cy0 cy1 HFu
              generalize HB5[j] = hb at *
              have dj : (j : Int) < (n5 : Int) := by omega
              clear hjL hjH hb6 hb7
              go_wp2_with fail
              refine HFu.out.mono ?_
              rintro e w8 ⟨rfl, b8⟩
              have cy0 := cell_on b8 cy0
              have cy1 := cell_on b8 cy1
              have cy2 := cell_on b8 cy2
              have s0_w8 := any_own b8 sx
              have r0_w8 := own_row s0_w8
              have l0_w8 := own_lt s0_w8
              have HJ8 := Lib.hid (And.intro b8 (HJ.out.trans b8))
              clear b8 HFu HJ r0_wr l0_wr
              go_wp2_with fail
              have a_w8 := AnyLater.refl w8
              first | refine settle_wp (fun wS => AnyLater w8 wS ∧ wS.heap[w8.heap.size]? = some (.cells #[.int .i64 p0, .int .i64 p1] 33)) ?_ ?_ | refine settle_calls (fun wS => AnyLater w8 wS ∧ wS.heap[w8.heap.size]? = some (.cells #[.int .i64 p0, .int .i64 p1] 33)) ?_ ?_
              · refine ⟨?_, ?_⟩
                · repeat' (first | with_reducible assumption | with_reducible exact AnyLater.refl _ | with_reducible apply AnyLater.setCell | with_reducible apply AnyLater.later | with_reducible apply AnyLater.drewN | with_reducible apply AnyLater.drew | with_reducible apply AnyLater.alloc | ((try simp only [World.size_alloc, World.size_setCell, World.size_drew]); (try dsimp only); omega))
                · ((repeat (first | with_reducible assumption | ((with_reducible apply heap_new); (try simp only [World.size_alloc, World.size_setCell, World.size_drew, World.heap_drewN]); done) | ((with_reducible apply heap_new); (try simp only [World.size_alloc, World.size_setCell, World.size_drew, World.heap_drewN]); omega) | (with_reducible refine heap_old (by (try simp only [World.size_alloc, World.size_setCell, World.size_drew, World.heap_drewN]); omega) ?_) | (with_reducible refine heap_drew ?_) | (with_reducible refine heap_far (by omega) ?_) | (with_reducible apply heap_at))); all_goals rfl)
              rintro w9 ⟨b_w9, s1_w9⟩
              have a_w9 := a_w8.trans b_w9
              have s0_w9 := any_own b_w9 s0_w8
              have r0_w9 := own_row s0_w9
              have f0_w9 := own_free s0_w9
              have l0_w9 := own_lt s0_w9
              (try clear r0_w8); (try clear f0_w8)
              have r1_w9 := own_row s1_w9
              have f1_w9 := own_free s1_w9
              have l1_w9 := own_lt s1_w9
              have z_w9 := b_w9.below.size
              have cy0 := cell_on b_w9 cy0
              have cy1 := cell_on b_w9 cy1
              have cy2 := cell_on b_w9 cy2
              have HJ9 := Lib.hid (And.intro (HJ8.out.1.trans b_w9) (HJ8.out.2.trans b_w9))
              apply wp_region_free (26) [⟨16, 94, .bool hb, false, fun v _ => v = .bool hb⟩] [] rfl (by kernel_rfl) (by kernel_rfl) (by kernel_rfl) (by simp) (by kernel_rfl)
              case hstab =>
                intro c hc
                simp only [List.mem_cons, List.not_mem_nil, or_false] at hc
                rcases hc with rfl
                · intro v x y hxy hv; exact hv
              case hfix =>
                intro c hc
                simp only [List.mem_cons, List.not_mem_nil, or_false] at hc
                rcases hc with rfl
                · exact .inr fun u x h => h
              case hlex =>
                intro U hU
                have q0 := own_row (any_own hU s0_w9)
                have q1 := own_row (any_own hU s1_w9)
                have q_cy0 := cell_on hU cy0
                have q_cy1 := cell_on hU cy1
                have q_cy2 := cell_on hU cy2
                simp only [List.map_cons, List.map_nil, CA.act, actFrom, actOp, List.lookup, Nat.reduceBEq, Nat.reduceLeDiff, Nat.reduceAdd, if_false, if_true]
                repeat (go_big_quiet_step (fail))
                exact wpQuiet_nil rfl
              case hstep =>
                intro j hj o ho
                have hj2 : j = 0 := by simp at hj; omega
                rcases hj2 with rfl
                · cases ho
                  refine ⟨rfl, fun g x hx hp => ?_⟩
                  clear hp
                  simp only [fillAll, Act.put, List.setIfInBounds_toArray, List.set_cons_zero, List.set_cons_succ]
                  refine chain_go ?_ (free_fix (HHi.out x (HJ9.out.1.trans hx)))
                  first | (simp [go_sem, execOp]; done) | simp [go_sem, execOp, hcf]
              case htail =>
                intro g u hst hne
                have b_w10 : AnyLater w9 (later u) := ⟨u, rfl⟩
                generalize later u = w10 at *
                clear u
                clear hst hne
                simp only [fillAll, Act.put, List.setIfInBounds_toArray, List.set_cons_zero, List.set_cons_succ, List.drop_succ_cons, List.drop_zero, List.drop_nil]
                have z_w10 := b_w10.below.size
                have a_w10 := a_w9.trans b_w10
                have s0_w10 := any_own b_w10 s0_w9
                have s1_w10 := any_own b_w10 s1_w9
                have r0_w10 := own_row s0_w10
                have f0_w10 := own_free s0_w10
                have l0_w10 := own_lt s0_w10
                have r1_w10 := own_row s1_w10
                have f1_w10 := own_free s1_w10
                have l1_w10 := own_lt s1_w10
                (try clear r0_w9); (try clear f0_w9)
                (try clear r1_w9); (try clear f1_w9)
                have cy0_w10 := cell_on b_w10 cy0
                have cy1_w10 := cell_on b_w10 cy1
                have cy2_w10 := cell_on b_w10 cy2
                have HJ10 := Lib.hid (HJ9.out.2.trans b_w10)
                have hb5 : j ≤ 2000 := by
                  have := HL5.out
                  rw [HN5.out] at this
                  omega
                go_wp2_with fail
                go_roundg (n5 - (j + 1))
                case measure => omega
                case rel => exact ⟨j + 1, rfl, by omega, by go_num, HJ10⟩
            · obtain rfl : j = n5 := by omega
              go_wp2_with fail
              go_roundg (nl - (i + 1))
              case measure => omega
              case rel => exact ⟨i + 1, rfl, by omega, by omega, by go_num, Lib.hid (H5.out.later HJ.out)⟩
      · have h12 : nl ≤ i ∨ 50 ≤ i := by omega
        by_cases h1 : i < nl
        · have d0 : (i : Int) < (nl : Int) := by omega
          have d1 : decide ((i : Int) < 50) = false := decide_eq_false (by omega)
          have d2 : decide (i < 50) = false := decide_eq_false (by omega)
          clear hlt hk h12
          go_wp2_with fail
          go_meet
          case rel => exact ⟨_, Lib.hid ⟨HI.out, by omega⟩⟩
        · have d0 : decide ((i : Int) < (nl : Int)) = false := decide_eq_false (by omega)
          have d1 : decide (i < nl) = false := decide_eq_false (by omega)
          clear hlt hk h12
          go_wp2_with fail
          go_meet
          case rel => exact ⟨_, Lib.hid ⟨HI.out, by omega⟩⟩
  case rest =>
    generalize wc = wr at *
    obtain ⟨n9, HI⟩ := hcut
    obtain ⟨a5, K5, rL5, rH5, L5, HB5, qx5, hl5⟩ := HI.out.1
    have HA := Lib.hid a5
    have hBl : HB5.length = L5.length := qx5.x.len
    obtain ⟨A6, k6, A7, k7, s0_wr, -⟩ := qx5.x.form
    have HFu := Lib.hid (hgfull_any (.pointer (some ⟨hg, 0, none⟩)) L5 HB5 (L5.length : Int) wr _ (getV_none (by omega)) qx5.h.v)
    have HHi : Hid (∀ W, AnyLater wr W → Calls Try.prog 14 #[.pointer (some ⟨hg, 0, none⟩), .int .i64 (L5.length : Int)] W fun e w' => e = .returned (.bool false) ∧ AnyLater W w') := Lib.hid (fun W a => by
      have := hghidden_any (.pointer (some ⟨hg, 0, none⟩)) L5 HB5 (L5.length : Int) W (qx5.later a).h.v
      rwa [hidB_end hBl] at this)
    have HH2 : Hid (∀ W, AnyLater wr W → Calls Try.prog 14 #[.pointer (some ⟨hg, 0, none⟩), .int .i64 (-1)] W fun e w' => e = .returned (.bool false) ∧ AnyLater W w') := Lib.hid (fun W a => by
      have := hghidden_any (.pointer (some ⟨hg, 0, none⟩)) L5 HB5 (-1) W (qx5.later a).h.v
      rwa [show hidB HB5 (-1) = false by unfold hidB; rw [dif_neg (by omega)]] at this)
    have r0_wr := own_row s0_wr
    have l0_wr := own_lt s0_wr
    clear a5 qx5 hl5 hBl
    generalize L5.length = n5 at *
    have a_wr := AnyLater.refl wr
    go_wp2_with fail
    refine HFu.out.mono ?_
    rintro e w5 ⟨rfl, b5⟩
    have s0_w5 := any_own b5 s0_wr
    have r0_w5 := own_row s0_w5
    have l0_w5 := own_lt s0_w5
    have B5 := Lib.hid b5
    clear b5
    go_wp2_with fail
    have a_w5 := AnyLater.refl w5
    first | refine settle_wp (fun wS => AnyLater w5 wS ∧ wS.heap[w5.heap.size]? = some (.cells #[.int .i64 0, .int .i64 0] 33)) ?_ ?_ | refine settle_calls (fun wS => AnyLater w5 wS ∧ wS.heap[w5.heap.size]? = some (.cells #[.int .i64 0, .int .i64 0] 33)) ?_ ?_
    · refine ⟨?_, ?_⟩
      · repeat' (first | with_reducible assumption | with_reducible exact AnyLater.refl _ | with_reducible apply AnyLater.setCell | with_reducible apply AnyLater.later | with_reducible apply AnyLater.drewN | with_reducible apply AnyLater.drew | with_reducible apply AnyLater.alloc | ((try simp only [World.size_alloc, World.size_setCell, World.size_drew]); (try dsimp only); omega))
      · ((repeat (first | with_reducible assumption | ((with_reducible apply heap_new); (try simp only [World.size_alloc, World.size_setCell, World.size_drew, World.heap_drewN]); done) | ((with_reducible apply heap_new); (try simp only [World.size_alloc, World.size_setCell, World.size_drew, World.heap_drewN]); omega) | (with_reducible refine heap_old (by (try simp only [World.size_alloc, World.size_setCell, World.size_drew, World.heap_drewN]); omega) ?_) | (with_reducible refine heap_drew ?_) | (with_reducible refine heap_far (by omega) ?_) | (with_reducible apply heap_at))); all_goals rfl)
    rintro w6 ⟨b_w6, s1_w6⟩
    have a_w6 := a_w5.trans b_w6
    have s0_w6 := any_own b_w6 s0_w5
    have r0_w6 := own_row s0_w6
    have f0_w6 := own_free s0_w6
    have l0_w6 := own_lt s0_w6
    (try clear r0_w5); (try clear f0_w5)
    have r1_w6 := own_row s1_w6
    have f1_w6 := own_free s1_w6
    have l1_w6 := own_lt s1_w6
    have z_w6 := b_w6.below.size
    refine (HHi.out _ (B5.out.trans b_w6)).mono ?_
    rintro e w7 ⟨rfl, b7⟩
    have B7 := Lib.hid (B5.out.trans (b_w6.trans b7))
    clear b7
    go_wp2_with fail
    refine (HH2.out _ B7.out).mono ?_
    rintro e w8 ⟨rfl, b8⟩
    have B8 := Lib.hid (B7.out.trans b8)
    clear b8
    go_wp2_with fail
    refine (HLv.out _).mono ?_
    rintro e w9 ⟨rfl, b9⟩
    have B9 := Lib.hid (HA.out.trans (B8.out.trans b9))
    clear b9
    go_wp2_with fail
    go_ret
    exact ⟨rfl, B9.out⟩
theorem heightsPlay_any (v av : Value) (l : Qs) (acs : List HAM) (w : World) (hv : QR w v l) (ha : HAcS w av acs) : Calls Try.prog 3 #[v, av] w fun e w' => e = .returned (.bool true) ∧ AnyLater w w' := by
  cases hb : (l.take 30).any tlBad with
  | true => exact heightsPlay_bad v av l _ acs w rfl hv ha hb
  | false => exact heightsPlay_yes v av l _ acs w rfl hv ha hb
end Go.Proofs.Ytjoadlfkdkeomaa
