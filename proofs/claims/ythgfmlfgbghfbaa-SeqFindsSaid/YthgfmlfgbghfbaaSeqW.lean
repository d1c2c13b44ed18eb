/- seq: SeqFinds. -/
import Derived.Test.YthgfmlfgbghfbaaSeqV
import Derived.Test.YthgfmlfgbghfbaaFree
import Derived.Test.YthgfmlfgbghfbaaClc
import Derived.Test.YthgfmlfgbghfbaaStor
import Derived.Lib.AppendZeros
import Derived.LoopN
import Derived.Deep.LoopGhost
import Derived.BigRegion
import Derived.RegionTactic
import Derived.Shelf.Abstract
import Derived.ChangeKeysEq
import Derived.Deep.DeepCutAuto
import Derived.Deep.CutBlock
namespace Go.Proofs.Ythgfmlfgbghfbaa
set_option linter.unusedSimpArgs false
set_option linter.unusedVariables false
set_option linter.unusedSectionVars false
open Go.RowKit
variable {B : Nat}


theorem QAct.later {w w' : World} {v : Value} {l : List QAM} (h : QAct w v l) (a : AnyLater w w') : QAct w' v l := by
  obtain ⟨A, cap, e, h1, h2⟩ := h
  refine ⟨A, cap, e, fun j hj => (h1 j hj).later a, fun h0 => ?_⟩
  obtain ⟨b, off, e2, hb, hc⟩ := h2 h0
  refine ⟨b, off, e2, Nat.lt_of_lt_of_le hb a.below.size, fun j hj => ?_⟩
  obtain ⟨q0, q1, q2, q3, q4, q5⟩ := hc j hj
  exact ⟨cell_on a q0, cell_on a q1, cell_on a q2, cell_on a q3, cell_on a q4, cell_on a q5⟩
set_option maxRecDepth 100000 in
set_option maxHeartbeats 6400000 in
theorem seqFinds_any (v av : Value) (l : Qs) (acs : List QAM) (a0 a1 : Int) (w : World) (hv : QR w v l) (ha : QAct w av acs) : Calls Try.prog 4 #[v, av, .agg #[.int .i64 a0, .int .i64 a1]] w fun e w' => e = .returned (.bool true) ∧ AnyLater w w' := by
  obtain ⟨m, hm⟩ : ∃ m, l.take 30 = m := ⟨_, rfl⟩
  have hm30 : m.length ≤ 30 := by rw [← hm, List.length_take]; omega
  have HM30 := Lib.hid hm30
  have HF1 := Lib.hid (fun (w' : World) (a : AnyLater w w') => tlfew_any v l m w' hm (hv.later a))
  have HF2 := Lib.hid (fun (w' : World) (u : Value) (h : QR w' u m) => tlfew_any u m m w' (List.take_of_length_le hm30) h)
  have HLi := Lib.hid (fun w' => sqlives_any w')
  have HAct0 := Lib.hid (fun (w' : World) (a : AnyLater w w') => ha.later a)
  obtain ⟨Av, capv, rfl, -⟩ := ha
  obtain ⟨nl, hnl⟩ : ∃ nl, acs.length = nl := ⟨_, rfl⟩
  have HNL := Lib.hid hnl
  rw [hnl] at HAct0 ⊢
  obtain ⟨vA, vcap, rfl, -⟩ := hv.form
  clear hv hnl hm30 hm
  generalize l.length = vl at *
  cases hb : m.any tlBad with
  | true =>
    have HNew := Lib.hid (fun (w' : World) (u : Value) (h : QR w' u m) => sqnew_bad u m w' h (by have := HM30.out; omega) hb)
    clear hb HM30 HAct0 HNL
    generalize m.length = ml at *
    go_enter Try.func4, Try.ntmps4
    go_wp2_with fail
    first | refine settle_wp (fun wS => AnyLater w wS ∧ wS.heap[w.heap.size]? = some (.cells #[.int .i64 a0, .int .i64 a1] 41)) ?_ ?_ | refine settle_calls (fun wS => AnyLater w wS ∧ wS.heap[w.heap.size]? = some (.cells #[.int .i64 a0, .int .i64 a1] 41)) ?_ ?_
    · refine ⟨?_, ?_⟩
      · repeat' (first | with_reducible assumption | with_reducible exact AnyLater.refl _ | with_reducible apply AnyLater.setCell | with_reducible apply AnyLater.later | with_reducible apply AnyLater.drewN | with_reducible apply AnyLater.drew | with_reducible apply AnyLater.alloc | ((try simp only [World.size_alloc, World.size_setCell, World.size_drew]); (try dsimp only); omega))
      · ((repeat (first | with_reducible assumption | ((with_reducible apply heap_new); (try simp only [World.size_alloc, World.size_setCell, World.size_drew, World.heap_drewN]); done) | ((with_reducible apply heap_new); (try simp only [World.size_alloc, World.size_setCell, World.size_drew, World.heap_drewN]); omega) | (with_reducible refine heap_old (by (try simp only [World.size_alloc, World.size_setCell, World.size_drew, World.heap_drewN]); omega) ?_) | (with_reducible refine heap_drew ?_) | (with_reducible refine heap_far (by omega) ?_) | (with_reducible apply heap_at))); all_goals rfl)
    rintro wb ⟨b_wb, s0_wb⟩
    have a_wb := b_wb
    have r0_wb := own_row s0_wb
    have f0_wb := own_free s0_wb
    have l0_wb := own_lt s0_wb
    have z_wb := b_wb.below.size
    have AB := Lib.hid a_wb
    refine (HF1.out wb a_wb).mono ?_
    rintro e w1 ⟨u1, rfl, b1, o1⟩
    have Q1 := Lib.hid (OQ.rq o1)
    have B1 := Lib.hid b1
    obtain ⟨A1, cap1, rfl, -⟩ := o1.form
    clear o1 b1
    go_wp2_with fail
    refine (HF2.out _ _ Q1.out).mono ?_
    rintro e w2 ⟨u2, rfl, b2, o2⟩
    have Q2 := Lib.hid (OQ.rq o2)
    have B2 := Lib.hid b2
    obtain ⟨A2, cap2, rfl, -⟩ := o2.form
    clear o2 b2
    go_wp2_with fail
    refine (HNew.out _ _ Q2.out).mono ?_
    rintro e w3 ⟨rfl, b3⟩
    have B3 := Lib.hid b3
    clear b3
    go_wp2_with fail
    refine (HLi.out _).mono ?_
    rintro e w5 ⟨rfl, b5⟩
    have B5 := Lib.hid b5
    clear b5
    go_wp2_with fail
    go_ret
    exact ⟨rfl, (AB.out.trans (B1.out.trans B2.out)).trans (B3.out.trans B5.out)⟩
  | false =>
    have HNew := Lib.hid (fun (w' : World) (u : Value) (h : QR w' u m) => sqnew_any u m w' h (by have := HM30.out; omega) hb)
    clear hb
    go_enter Try.func4, Try.ntmps4
    go_wp2_with fail
    first | refine settle_wp (fun wS => AnyLater w wS ∧ wS.heap[w.heap.size]? = some (.cells #[.int .i64 a0, .int .i64 a1] 41)) ?_ ?_ | refine settle_calls (fun wS => AnyLater w wS ∧ wS.heap[w.heap.size]? = some (.cells #[.int .i64 a0, .int .i64 a1] 41)) ?_ ?_
    · refine ⟨?_, ?_⟩
      · repeat' (first | with_reducible assumption | with_reducible exact AnyLater.refl _ | with_reducible apply AnyLater.setCell | with_reducible apply AnyLater.later | with_reducible apply AnyLater.drewN | with_reducible apply AnyLater.drew | with_reducible apply AnyLater.alloc | ((try simp only [World.size_alloc, World.size_setCell, World.size_drew]); (try dsimp only); omega))
      · ((repeat (first | with_reducible assumption | ((with_reducible apply heap_new); (try simp only [World.size_alloc, World.size_setCell, World.size_drew, World.heap_drewN]); done) | ((with_reducible apply heap_new); (try simp only [World.size_alloc, World.size_setCell, World.size_drew, World.heap_drewN]); omega) | (with_reducible refine heap_old (by (try simp only [World.size_alloc, World.size_setCell, World.size_drew, World.heap_drewN]); omega) ?_) | (with_reducible refine heap_drew ?_) | (with_reducible refine heap_far (by omega) ?_) | (with_reducible apply heap_at))); all_goals rfl)
    rintro wb ⟨b_wb, s0_wb⟩
    have a_wb := b_wb
    have r0_wb := own_row s0_wb
    have f0_wb := own_free s0_wb
    have l0_wb := own_lt s0_wb
    have z_wb := b_wb.below.size
    obtain ⟨bx, hbx⟩ : ∃ bx, w.heap.size = bx := ⟨_, rfl⟩
    rw [hbx] at s0_wb ⊢
    have AB := Lib.hid a_wb
    have S0 := Lib.hid s0_wb
    obtain ⟨A, cap, eA, hav, hac⟩ := HAct0.out wb a_wb
    simp only [Value.slice.injEq] at eA
    obtain ⟨e1, -, -⟩ := eA
    subst e1
    have HAV := Lib.hid (And.intro hav hac)
    have HF1b := Lib.hid (HF1.out wb a_wb)
    clear hav hac HAct0 a_wb b_wb s0_wb r0_wb f0_wb l0_wb z_wb hbx HF1
    refine HF1b.out.mono ?_
    rintro e w1 ⟨u1, rfl, b1, o1⟩
    have O1 := Lib.hid o1
    have B1 := Lib.hid b1
    obtain ⟨A1, cap1, rfl, -⟩ := o1.form
    clear o1 b1
    go_wp2_with fail
    refine (HF2.out _ _ (OQ.rq O1.out)).mono ?_
    rintro e w2 ⟨u2, rfl, b2, o2⟩
    have Q2 := Lib.hid (OQ.rq o2)
    have B2 := Lib.hid b2
    obtain ⟨A2, cap2, rfl, -⟩ := o2.form
    clear o2 b2
    go_wp2_with fail
    refine (HNew.out _ _ Q2.out).mono ?_
    rintro e w3 ⟨g, t0, rfl, b3, hq, ht0⟩
    have HG := Lib.hid (Nat.le_trans (B1.out.trans B2.out).below.size hq.base)
    have H4 := Lib.hid (HBoth.start O1.out B1.out B2.out b3 hq ht0)
    have A4 := Lib.hid ((B1.out.trans B2.out).trans b3)
    have HL0 : Hid (t0.hs.length ≤ 30) := Lib.hid (by rw [ht0]; exact HM30.out)
    clear b3 hq ht0 B1 B2 HF2 HNew O1 Q2 HM30 HF1b
    generalize m.length = ml at *
    obtain ⟨W0, hW0⟩ : ∃ W0, wb.heap.size = W0 := ⟨_, rfl⟩
    have HW0 := Lib.hid hW0
    rw [hW0] at H4 HG
    clear hW0
    go_upto_block 0 with fail
    go_cut [0] (fun uv wx => ∃ t, Hid (AnyLater wb wx ∧ HBoth W0 wx g t uv ∧ t.hs.length ≤ 2000))
    case first =>
      go_wp2_with fail
      go_loopg [0, 9] nl (fun kk uv iv wr => ∃ (i : Nat) (t : Ht), kk = nl - i ∧ i ≤ nl ∧ i ≤ 40 ∧ iv = .int .i64 (i : Int) ∧ Hid (AnyLater wb wr ∧ HBoth W0 wr g t uv ∧ t.hs.length ≤ 30 + 30 * i))
      case atStart => exact ⟨0, t0, by omega, by omega, by omega, rfl, Lib.hid ⟨A4.out, H4.out, by have := HL0.out; omega⟩⟩
      case round =>
        obtain ⟨i, t, hk, hi, hi50, rfl, HI⟩ := hrel
        obtain ⟨Au, capu, rfl, -⟩ := (OQ.rq HI.out.2.1.row).form
        by_cases hlt : i < nl ∧ i < 40
        · obtain ⟨h1, h2⟩ := hlt
          have hil : i < acs.length := by rw [HNL.out]; exact h1
          obtain ⟨b0, off, rfl, hb0, hcs⟩ := HAV.out.2 (by omega)
          obtain ⟨c0, c1, c2, c3, c4, c5⟩ := hcs i hil
          have aw := HI.out.1
          have c0 := cell_on aw c0
          have c1 := cell_on aw c1
          have c2 := cell_on aw c2
          have c3 := cell_on aw c3
          have c4 := cell_on aw c4
          have c5 := cell_on aw c5
          have d0 : (i : Int) < (nl : Int) := by omega
          have d1 : (i : Int) < 40 := by omega
          have HRow := Lib.hid ((HAV.out.1 i hil).later aw)
          have HDo := Lib.hid (fun k i' n x y v (l : Qs) (h : QR wr v l) => does_both g t _ k i' n x y v l wr HI.out.2.1 (by have := HI.out.2.2; omega) h)
          have HSt := Lib.hid (fun (e : Ending) (w' : World) (h : HAct W0 wr g t e w') => h.step HI.out.1 (Nat.le_of_eq HW0.out) HG.out)
          have HTl := Lib.hid HI.out.2.2
          generalize acs[i] = Ai at *
          obtain ⟨k4, i4, n4, x4, y4, v4, l4⟩ := Ai
          simp only at c0 c1 c2 c3 c4 c5 HRow
          obtain ⟨A5, cap5, rfl, -⟩ := HRow.out.form
          have HD := Lib.hid (HDo.out k4 i4 n4 x4 y4 _ l4 HRow.out)
          clear hcs hil aw HI HDo HRow
          generalize l4.length = ll at *
          go_wp2_with fail
          refine HD.out.mono ?_
          intro e w5 hact
          obtain ⟨t', u, rfl, a5, hb5, hl5⟩ := HSt.out e w5 hact
          have HH : Hid (AnyLater wb w5 ∧ HBoth W0 w5 g t' u ∧ t'.hs.length ≤ 30 + 30 * (i + 1)) := Lib.hid ⟨a5, hb5, by have := HTl.out; omega⟩
          clear hact a5 hb5 hl5 HSt HD HTl
          go_wp2_with fail
          go_roundg (nl - (i + 1))
          case measure => omega
          case rel => exact ⟨i + 1, t', rfl, by omega, by omega, by go_num, HH⟩
        · have h12 : nl ≤ i ∨ 40 ≤ i := by omega
          by_cases h1 : i < nl
          · have d0 : (i : Int) < (nl : Int) := by omega
            have d1 : decide ((i : Int) < 40) = false := decide_eq_false (by omega)
            have d2 : decide (i < 40) = false := decide_eq_false (by omega)
            clear hlt hk h12
            generalize hgl : t.hs.length = tl at *
            go_wp2_with fail
            go_meet
            case rel => exact ⟨t, Lib.hid ⟨HI.out.1, HI.out.2.1, by have := HI.out.2.2; omega⟩⟩
          · have d0 : decide ((i : Int) < (nl : Int)) = false := decide_eq_false (by omega)
            have d1 : decide (i < nl) = false := decide_eq_false (by omega)
            clear hlt hk h12
            go_wp2_with fail
            go_meet
            case rel => exact ⟨t, Lib.hid ⟨HI.out.1, HI.out.2.1, by have := HI.out.2.2; omega⟩⟩
    case rest =>
      generalize wc = wr at *
      obtain ⟨t, HI⟩ := hcut
      have s0_wr := any_own HI.out.1 S0.out
      have r0_wr := own_row s0_wr
      have a_wr := AB.out.trans HI.out.1
      have hT : Tls t.hs := HI.out.2.1.seq.ok.tls
      have hl9 : t.hs.length ≤ 90000 := by have := HI.out.2.2; omega
      have hrow := OQ.rq HI.out.2.1.row
      have hf := HI.out.2.1.seq.fit
      have HQ := Lib.hid (fun (w' : World) (a : AnyLater wr w') => (HI.out.2.1.seq.later a).q.nil_or)
      obtain ⟨⟨i2, p2⟩, h2⟩ : ∃ r, fdL 2 a0 t.hs 0 (-1) 0 0 = r := ⟨_, rfl⟩
      obtain ⟨⟨i1, p1⟩, h1⟩ : ∃ r, fdL 1 a0 t.hs 0 (-1) 0 0 = r := ⟨_, rfl⟩
      obtain ⟨R, hR⟩ : ∃ R, tlR (t.hs.take (sumN t.hs a1)) = R := ⟨_, rfl⟩
      obtain ⟨H, hH⟩ : ∃ H, tlH (t.hs.take (sumN t.hs a1)) = H := ⟨_, rfl⟩
      have HFd := Lib.hid (fun (w' : World) (a : AnyLater wr w') => sqFind_any (.pointer (some ⟨g, 0, none⟩)) t a0 w' _ h2 (HQ.out w' a) hf)
      have HFr := Lib.hid (fun (w' : World) (a : AnyLater wr w') => sqFindRow_any (.pointer (some ⟨g, 0, none⟩)) t a0 w' _ h1 (HQ.out w' a) hf)
      have HSm := Lib.hid (fun (w' : World) (a : AnyLater wr w') => sqsum_any (.pointer (some ⟨g, 0, none⟩)) t a1 w' R H hR hH (HQ.out w' a) hf)
      have HRd := Lib.hid (fun (w' : World) (a : AnyLater wr w') => rfind_any2 _ t.hs a0 w' _ h2 (hrow.later a) hl9 hT)
      have HRr := Lib.hid (fun (w' : World) (a : AnyLater wr w') => rfind_any1 _ t.hs a0 w' _ h1 (hrow.later a) hl9 hT)
      have HRs := Lib.hid (fun (w' : World) (a : AnyLater wr w') => rsum_any _ t.hs a1 w' R H hR hH (hrow.later a) hl9 hT)
      obtain ⟨Au, capu, rfl, -⟩ := hrow.form
      clear hT hl9 hf h1 h2 hR hH HI HQ hrow
      have ez := eqlTall
      have gz := guard_tall
      generalize t.hs.length = tl at *
      go_wp2_with fail
      refine (HFd.out wr (AnyLater.refl _)).mono ?_
      rintro e w5 ⟨rfl, b_w5⟩
      have z_w5 := b_w5.below.size
      have a_w5 := a_wr.trans b_w5
      have s0_w5 := any_own b_w5 s0_wr
      have r0_w5 := own_row s0_w5
      have f0_w5 := own_free s0_w5
      have l0_w5 := own_lt s0_w5
      (try clear r0_wr); (try clear f0_wr)
      go_wp2_with fail
      refine (HFr.out w5 b_w5).mono ?_
      rintro e w6 ⟨rfl, b_w6⟩
      have c_w6 := b_w5.trans b_w6
      have z_w6 := b_w6.below.size
      have a_w6 := a_w5.trans b_w6
      have s0_w6 := any_own b_w6 s0_w5
      have r0_w6 := own_row s0_w6
      have f0_w6 := own_free s0_w6
      have l0_w6 := own_lt s0_w6
      (try clear r0_w5); (try clear f0_w5)
      go_wp2_with fail
      refine (HRd.out w6 c_w6).mono ?_
      rintro e w7 ⟨rfl, b_w7⟩
      have c_w7 := c_w6.trans b_w7
      have z_w7 := b_w7.below.size
      have a_w7 := a_w6.trans b_w7
      have s0_w7 := any_own b_w7 s0_w6
      have r0_w7 := own_row s0_w7
      have f0_w7 := own_free s0_w7
      have l0_w7 := own_lt s0_w7
      (try clear r0_w6); (try clear f0_w6)
      go_wp2_with fail
      refine (HRr.out w7 c_w7).mono ?_
      rintro e w8 ⟨rfl, b_w8⟩
      have c_w8 := c_w7.trans b_w8
      have z_w8 := b_w8.below.size
      have a_w8 := a_w7.trans b_w8
      have s0_w8 := any_own b_w8 s0_w7
      have r0_w8 := own_row s0_w8
      have f0_w8 := own_free s0_w8
      have l0_w8 := own_lt s0_w8
      (try clear r0_w7); (try clear f0_w7)
      go_wp2_with fail
      apply Wild.wp_region_free (31) [⟨3, 84, .agg #[.int .i64 R, .int .i64 H], false, fun v _ => v = .agg #[.int .i64 R, .int .i64 H]⟩, ⟨7, 88, .agg #[.int .i64 R, .int .i64 H], false, fun v _ => v = .agg #[.int .i64 R, .int .i64 H]⟩, ⟨30, 111, .bool true, false, fun v _ => v = .bool true⟩] [] rfl (by kernel_rfl) (by kernel_rfl) (by kernel_rfl) (by simp) (by kernel_rfl)
      case hstab =>
        intro c hc
        simp only [List.mem_cons, List.not_mem_nil, or_false] at hc
        rcases hc with rfl | rfl | rfl
        · intro v x y hxy hv; exact hv
        · intro v x y hxy hv; exact hv
        · intro v x y hxy hv; exact hv
      case hfix =>
        intro c hc
        simp only [List.mem_cons, List.not_mem_nil, or_false] at hc
        rcases hc with rfl | rfl | rfl
        · exact .inr fun u x h => h
        · exact .inr fun u x h => h
        · exact .inr fun u x h => h
      case hlex =>
        intro U hU
        have q0 := own_row (any_own hU s0_w8)
        simp only [List.map_cons, List.map_nil, CA.act, actFrom, actOp, List.lookup, Nat.reduceBEq, Nat.reduceLeDiff, Nat.reduceAdd, if_false, if_true]
        repeat (go_big_quiet_step (fail))
        exact wpQuiet_nil rfl
      case hstep =>
        intro j hj o ho
        have hj2 : j = 0 ∨ j = 1 ∨ j = 2 := by simp at hj; omega
        rcases hj2 with rfl | rfl | rfl
        · cases ho
          refine ⟨rfl, fun g x hx hp => ?_⟩
          clear hp
          simp only [fillAll, Act.put, List.setIfInBounds_toArray, List.set_cons_zero, List.set_cons_succ]
          refine chain_go ?_ (Wild.free_fix (HSm.out x (c_w8.trans hx)))
          first | (simp [go_sem, execOp]; done) | simp [go_sem, execOp, hcf]
        · cases ho
          refine ⟨rfl, fun g x hx hp => ?_⟩
          clear hp
          simp only [fillAll, Act.put, List.setIfInBounds_toArray, List.set_cons_zero, List.set_cons_succ]
          refine chain_go ?_ (Wild.free_fix (HRs.out x (c_w8.trans hx)))
          first | (simp [go_sem, execOp]; done) | simp [go_sem, execOp, hcf]
        · cases ho
          refine ⟨rfl, fun g x hx hp => ?_⟩
          clear hp
          simp only [fillAll, Act.put, List.setIfInBounds_toArray, List.set_cons_zero, List.set_cons_succ]
          refine chain_go ?_ (Wild.free_fix (HLi.out x))
          first | (simp [go_sem, execOp]; done) | simp [go_sem, execOp, hcf]
      case htail =>
        intro g u hst hne
        have b_w9 : AnyLater w8 (later u) := ⟨u, rfl⟩
        generalize later u = w9 at *
        clear u hne
        clear hst
        simp only [fillAll, Act.put, List.setIfInBounds_toArray, List.set_cons_zero, List.set_cons_succ, List.drop_succ_cons, List.drop_zero, List.drop_nil]
        have z_w9 := b_w9.below.size
        have a_w9 := a_w8.trans b_w9
        have s0_w9 := any_own b_w9 s0_w8
        have r0_w9 := own_row s0_w9
        have f0_w9 := own_free s0_w9
        have l0_w9 := own_lt s0_w9
        (try clear r0_w8); (try clear f0_w8)
        go_wp2_with fail
        go_ret
        exact ⟨rfl, a_w9⟩
end Go.Proofs.Ythgfmlfgbghfbaa
