/- seq: SeqBack. -/
import Derived.Test.YthgfmlfgbghfbaaSeqW
import Derived.Test.YthgfmlfgbghfbaaFree
import Derived.Test.YthgfmlfgbghfbaaClc
import Derived.Test.YthgfmlfgbghfbaaStor
import Derived.Lib.AppendZeros
import Derived.LoopN
import Derived.Deep.LoopGhost
import Derived.BigRegion
import Derived.RegionTactic
import Derived.Shelf.Abstract
import Derived.ChangeKeysEq
import Derived.Deep.DeepCutAuto
import Derived.Deep.CutBlock
namespace Go.Proofs.Ythgfmlfgbghfbaa
set_option linter.unusedSimpArgs false
set_option linter.unusedVariables false
set_option linter.unusedSectionVars false
open Go.RowKit
variable {B : Nat}


/-- a Seq, and a row beside it that says something else -/
structure HKeep (B : Nat) (w : World) (g : Nat) (t : Ht) (v : Value) (l : Qs) : Prop where
  seq : QAt B w g t
  row : OQ 34 w B v l
  apart : ∀ k, v.ownBlock = some k → k ∉ t.bks
theorem HKeep.later {w w' : World} {g : Nat} {t : Ht} {v : Value} {l : Qs} (h : HKeep B w g t v l) (a : AnyLater w w') : HKeep B w' g t v l := ⟨h.seq.later a, OQ.later a h.row, h.apart⟩
theorem HKeep.done {w w' : World} {g : Nat} {t : Ht} {v : Value} {l m : Qs} (h : HKeep B w g t v l) (hd : QDone B w g t m w') : ∃ t', t'.hs = m ∧ HKeep B w' g t' v l := by
  obtain ⟨⟨t', k1, k2, k3⟩, st⟩ := hd
  refine ⟨t', k2, k1, row_stays h.seq h.row h.apart st, fun k hk hb => ?_⟩
  rcases k3 k hb with q | q
  · exact h.apart k hk q
  · rcases h.row.2 with ⟨rfl, _⟩ | ⟨b, cap, cur, rfl, _, h3, _⟩
    · cases hk
    · cases hk
      have := own_lt h3
      dsimp only at q
      omega
theorem take_back (m x : Qs) (a : Nat) (h : a ≤ m.length) : (m.take a ++ x ++ m.drop a).take a ++ (m.take a ++ x ++ m.drop a).drop (a + x.length) = m := by
  have h1 : (m.take a).length = a := by rw [List.length_take]; omega
  have e1 : (m.take a ++ x ++ m.drop a).take a = m.take a := by rw [List.append_assoc, List.take_left' h1]
  have e2 : (m.take a ++ x ++ m.drop a).drop (a + x.length) = m.drop a := List.drop_left' (by rw [List.length_append, h1])
  rw [e1, e2, List.take_append_drop]
set_option maxRecDepth 100000 in
set_option maxHeartbeats 6400000 in
theorem seqBack_any (v mv : Value) (l x : Qs) (i : Int) (w : World) (hv : QR w v l) (hx : QR w mv x) : Calls Try.prog 5 #[v, .int .i64 i, mv] w fun e w' => e = .returned (.bool true) ∧ AnyLater w w' := by
  obtain ⟨m, hm⟩ : ∃ m, l.take 30 = m := ⟨_, rfl⟩
  obtain ⟨y, hy⟩ : ∃ y, x.take 30 = y := ⟨_, rfl⟩
  have hm30 : m.length ≤ 30 := by rw [← hm, List.length_take]; omega
  have hy30 : y.length ≤ 30 := by rw [← hy, List.length_take]; omega
  have HM30 := Lib.hid (And.intro hm30 hy30)
  have HF1 := Lib.hid (tlfew_any v l m w hm hv)
  have HFy := Lib.hid (fun (w' : World) (a : AnyLater w w') => tlfew_any mv x y w' hy (hx.later a))
  have HF2 := Lib.hid (fun (w' : World) (u : Value) (h : QR w' u m) => tlfew_any u m m w' (List.take_of_length_le hm30) h)
  have HF3 := Lib.hid (fun (w' : World) (u : Value) (h : QR w' u y) => tlfew_any u y y w' (List.take_of_length_le hy30) h)
  have HLi := Lib.hid (fun w' => sqlives_any w')
  obtain ⟨vA, vcap, rfl, -⟩ := hv.form
  obtain ⟨xA, xcap, rfl, -⟩ := hx.form
  clear hv hx hm30 hy30 hm hy
  generalize l.length = vl at *
  generalize x.length = xl at *
  cases hb : m.any tlBad with
  | true =>
    have HNew := Lib.hid (fun (w' : World) (u : Value) (h : QR w' u m) => sqnew_bad u m w' h (by have := HM30.out; omega) hb)
    clear hb HM30 HF3
    generalize m.length = ml at *
    generalize y.length = yl at *
    go_enter Try.func5, Try.ntmps5
    go_wp2_with fail
    refine HF1.out.mono ?_
    rintro e w1 ⟨u1, rfl, b1, o1⟩
    have Q1 := Lib.hid (OQ.rq o1)
    have B1 := Lib.hid b1
    obtain ⟨A1, cap1, rfl, -⟩ := o1.form
    clear o1 b1
    go_wp2_with fail
    refine (HFy.out _ B1.out).mono ?_
    rintro e w2 ⟨u2, rfl, b2, o2⟩
    have B2 := Lib.hid b2
    obtain ⟨A2, cap2, rfl, -⟩ := o2.form
    clear o2 b2
    go_wp2_with fail
    refine (HF2.out _ _ (Q1.out.later B2.out)).mono ?_
    rintro e w3 ⟨u3, rfl, b3, o3⟩
    have Q3 := Lib.hid (OQ.rq o3)
    have B3 := Lib.hid b3
    obtain ⟨A3, cap3, rfl, -⟩ := o3.form
    clear o3 b3
    go_wp2_with fail
    refine (HNew.out _ _ Q3.out).mono ?_
    rintro e w4 ⟨rfl, b4⟩
    have B4 := Lib.hid b4
    clear b4
    go_wp2_with fail
    refine (HLi.out _).mono ?_
    rintro e w5 ⟨rfl, b5⟩
    have B5 := Lib.hid b5
    clear b5
    go_wp2_with fail
    go_ret
    exact ⟨rfl, ((B1.out.trans B2.out).trans (B3.out.trans B4.out)).trans B5.out⟩
  | false =>
    have HNew := Lib.hid (fun (w' : World) (u : Value) (h : QR w' u m) => sqnew_any u m w' h (by have := HM30.out; omega) hb)
    clear hb
    obtain ⟨ml, hml⟩ : ∃ ml, m.length = ml := ⟨_, rfl⟩
    obtain ⟨yl, hyl⟩ : ∃ yl, y.length = yl := ⟨_, rfl⟩
    have HML := Lib.hid (And.intro hml hyl)
    go_enter Try.func5, Try.ntmps5
    go_wp2_with fail
    refine HF1.out.mono ?_
    rintro e w1 ⟨u1, rfl, b1, o1⟩
    have O1 := Lib.hid o1
    have B1 := Lib.hid b1
    obtain ⟨A1, cap1, rfl, -⟩ := o1.form
    rw [hml] at O1 ⊢
    clear o1 b1
    go_wp2_with fail
    refine (HFy.out _ B1.out).mono ?_
    rintro e w2 ⟨u2, rfl, b2, o2⟩
    have B2 := Lib.hid b2
    have Q2 := Lib.hid (OQ.rq o2)
    obtain ⟨A2, cap2, rfl, -⟩ := o2.form
    rw [hyl] at Q2 ⊢
    clear o2 b2
    go_wp2_with fail
    refine (HF2.out _ _ ((OQ.rq O1.out).later B2.out)).mono ?_
    rintro e w3 ⟨u3, rfl, b3, o3⟩
    have Q3 := Lib.hid (OQ.rq o3)
    have B3 := Lib.hid b3
    obtain ⟨A3, cap3, rfl, -⟩ := o3.form
    rw [hml] at Q3 ⊢
    clear o3 b3 hml hyl
    go_wp2_with fail
    refine (HNew.out _ _ Q3.out).mono ?_
    rintro e w4 ⟨g, t0, rfl, b4, hq, ht0⟩
    have hst := HBoth.start O1.out B1.out (B2.out.trans B3.out) b4 hq ht0
    have HG := Lib.hid (Nat.le_trans ((B1.out.trans B2.out).trans B3.out).below.size hq.base)
    have A4 := Lib.hid (((B1.out.trans B2.out).trans B3.out).trans b4)
    have Q4 := Lib.hid (Q2.out.later (B3.out.trans b4))
    have H4 : Hid (HKeep w.heap.size w4 g t0 (.slice A1 ml cap1) m) := Lib.hid ⟨hst.seq, by rw [← ht0]; exact hst.row, hst.apart⟩
    have HT0 := Lib.hid ht0
    clear hst b4 hq ht0 B1 B2 B3 O1 Q2 Q3 HF1 HF2 HFy HNew
    obtain ⟨W0, hW0⟩ : ∃ W0, w.heap.size = W0 := ⟨_, rfl⟩
    have HW0 := Lib.hid hW0
    rw [hW0] at H4 HG
    clear hW0
    go_upto_region 5 with fail
    go_cut [42] (fun cv wx => cv = .bool false ∧ ∃ t, Hid (AnyLater w wx ∧ HKeep W0 wx g t (.slice A1 ml cap1) m ∧ t.hs = m))
    case first =>
      have HIn : Hid (∀ (w' : World) (u : Value), AnyLater w4 w' → QR w' u y → Calls Try.prog 21 #[.pointer (some ⟨g, 0, none⟩), .int .i64 i, u] w' fun e w'' => e = .returned (.int .i64 (qinsC m.length i y)) ∧ QDone W0 w' g t0 (qinsO m i y) w'') := Lib.hid (fun w' u a h => by
        have := sqins_any g u t0 i y w' (H4.out.later a).seq h (by rw [HT0.out]; have := HM30.out; omega)
        rwa [HT0.out] at this)
      have HKe := Lib.hid (fun (w' w'' : World) (a : AnyLater w4 w') (hd : QDone W0 w' g t0 (qinsO m i y) w'') => And.intro (hd.any (A4.out.trans a) (Nat.le_of_eq HW0.out) HG.out) ((H4.out.later a).done hd))
      by_cases hC : qinsC m.length i y = 0
      · have hi : ∃ a : Nat, i = a ∧ a ≤ m.length := by
          unfold qinsC at hC
          split at hC
          · omega
          · exact ⟨i.toNat, by omega, by omega⟩
        obtain ⟨a, rfl, hal⟩ := hi
        have hO : qinsO m a y = m.take a ++ y ++ m.drop a := by unfold qinsO; rw [if_pos hC]; rfl
        have HO := Lib.hid hO
        rw [hC] at HIn
        have HAl := Lib.hid hal
        have HDe : Hid (∀ (w' : World) (t : Ht), QAt W0 w' g t → t.hs = qinsO m a y → Calls Try.prog 22 #[.pointer (some ⟨g, 0, none⟩), .int .i64 (a : Int), .int .i64 (yl : Int)] w' fun e w'' => e = .returned (.int .i64 0) ∧ QDone W0 w' g t m w'') := Lib.hid (fun w' t h e => by
          have := sqdel_yes g t a yl w' h (by rw [e, HO.out, ← HML.out.2]; simp; omega)
          rwa [e, HO.out, ← HML.out.2, take_back m y a HAl.out, HML.out.2] at this)
        clear hC hal hO
        go_wp2_with fail
        refine (HF3.out w4 _ Q4.out).mono ?_
        rintro e w5 ⟨u5, rfl, b5, o5⟩
        have Q5 := Lib.hid (OQ.rq o5)
        have B5 := Lib.hid b5
        obtain ⟨A5, cap5, rfl, -⟩ := o5.form
        clear o5 b5
        generalize y.length = yl2 at *
        go_wp2_with fail
        refine (HIn.out w5 _ B5.out Q5.out).mono ?_
        rintro e w6 ⟨rfl, hd⟩
        obtain ⟨a6, t6, e6, h6⟩ := HKe.out w5 w6 B5.out hd
        have A6 := Lib.hid a6
        have H6 := Lib.hid (And.intro e6 h6)
        clear hd a6 e6 h6
        go_wp2_with fail
        refine (HDe.out w6 t6 H6.out.2.seq H6.out.1).mono ?_
        rintro e w7 ⟨rfl, hd⟩
        obtain ⟨t7, e7, h7⟩ := H6.out.2.done hd
        have HZ : Hid (AnyLater w w7 ∧ HKeep W0 w7 g t7 (.slice A1 ml cap1) m ∧ t7.hs = m) := Lib.hid ⟨hd.any A6.out (Nat.le_of_eq HW0.out) HG.out, h7, e7⟩
        clear hd e7 h7
        go_wp2_with fail
        go_meet
        case rel => exact ⟨rfl, t7, HZ⟩
      · have hO : qinsO m i y = m := by unfold qinsO; rw [if_neg hC]
        have hC2 : (qinsC m.length i y == 0) = false := by simpa using hC
        rw [hO] at HIn HKe
        clear hO
        generalize qinsC m.length i y = C at *
        go_wp2_with fail
        refine (HF3.out w4 _ Q4.out).mono ?_
        rintro e w5 ⟨u5, rfl, b5, o5⟩
        have Q5 := Lib.hid (OQ.rq o5)
        have B5 := Lib.hid b5
        obtain ⟨A5, cap5, rfl, -⟩ := o5.form
        clear o5 b5
        generalize y.length = yl2 at *
        go_wp2_with fail
        refine (HIn.out w5 _ B5.out Q5.out).mono ?_
        rintro e w6 ⟨rfl, hd⟩
        obtain ⟨a6, t6, e6, h6⟩ := HKe.out w5 w6 B5.out hd
        have HZ : Hid (AnyLater w w6 ∧ HKeep W0 w6 g t6 (.slice A1 ml cap1) m ∧ t6.hs = m) := Lib.hid ⟨a6, h6, e6⟩
        clear hd a6 e6 h6
        go_wp2_with fail
        go_meet
        case rel => exact ⟨rfl, t6, HZ⟩
    case rest =>
      generalize wc = wr at *
      obtain ⟨rfl, t, HI⟩ := hcut
      obtain ⟨W, hW⟩ : ∃ W, wr = W := ⟨_, rfl⟩
      have e0 := HI.out.2.2
      have hf := HI.out.2.1.seq.fit
      have hT : Tls m := by have := HI.out.2.1.seq.ok.tls; rwa [e0] at this
      have hm9 : m.length ≤ 30 := HM30.out.1
      have HQ := Lib.hid (fun (w' : World) (a : AnyLater wr w') => (HI.out.2.1.seq.later a).q)
      have hrow := OQ.rq HI.out.2.1.row
      have hs1 : sumN t.hs 1099511627776 = m.length := by rw [e0]; unfold sumN clcClamp; rw [if_neg (by omega), if_pos (by omega)]; simp
      have hs2 : sumN m (m.length : Int) = m.length := by
        unfold sumN clcClamp
        rw [if_neg (by omega)]
        split <;> simp
      obtain ⟨R, hR⟩ : ∃ R, tlR m = R := ⟨_, rfl⟩
      obtain ⟨H, hH⟩ : ∃ H, tlH m = H := ⟨_, rfl⟩
      have HLen : Hid (∀ w', AnyLater wr w' → Calls Try.prog 13 #[.pointer (some ⟨g, 0, none⟩)] w' fun e w'' => e = .returned (.int .i64 (ml : Int)) ∧ AnyLater w' w'') := Lib.hid (fun w' a => by
        have := sqlen_any (.pointer (some ⟨g, 0, none⟩)) t w' (HQ.out w' a).nil_or hf
        rwa [e0, HML.out.1] at this)
      have HSm := Lib.hid (fun (w' : World) (a : AnyLater wr w') => sqsum_any (.pointer (some ⟨g, 0, none⟩)) t 1099511627776 w' R H (by rw [hs1, e0, List.take_length, hR]) (by rw [hs1, e0, List.take_length, hH]) (HQ.out w' a).nil_or hf)
      have HRs : Hid (∀ w', AnyLater wr w' → Calls Try.prog 20 #[.slice A1 ml cap1, .int .i64 (ml : Int)] w' fun e w'' => e = .returned (.agg #[.int .i64 R, .int .i64 H]) ∧ AnyLater w' w'') := Lib.hid (fun w' a => by
        have := rsum_any _ m (m.length : Int) w' R H (by rw [hs2, List.take_length, hR]) (by rw [hs2, List.take_length, hH]) (hrow.later a) (by omega) hT
        rwa [HML.out.1] at this)
      have HChk := Lib.hid (fun (w' : World) (a : AnyLater wr w') => sqcheck_any g t w' (HQ.out w' a) hf HI.out.2.1.seq.ok.fine.1)
      have HGet := Lib.hid (fun (w' : World) (a : AnyLater wr w') (j : Nat) (hj : j < m.length) => (show Calls Try.prog 15 #[.pointer (some ⟨g, 0, none⟩), .int .i64 (j : Int)] w' fun e w'' => e = .returned (.tuple #[.agg #[.int .i64 m[j].1, .int .i64 m[j].2], .bool true]) ∧ AnyLater w' w'' from by
        have := sqget_some g t j w' (HQ.out w' a) hf (by rw [e0]; exact hj)
        simpa only [e0] using this))
      obtain ⟨A', cap', eA, -, hcell⟩ := hrow
      simp only [Value.slice.injEq] at eA
      obtain ⟨e1, -, -⟩ := eA
      subst e1
      have HCell := Lib.hid hcell
      have hml5 : ml ≤ 30 := by rw [← HML.out.1]; exact hm9
      have AW := Lib.hid HI.out.1
      have HW := Lib.hid hW
      rw [hW] at HLen HSm HRs HChk HGet HCell AW
      clear e0 hf hT hm9 HQ hs1 hs2 hR hH hcell HI hW
      have ez := eqlTall
      have gz := guard_tall
      have nz := neqTall
      go_wp2_with fail
      go_loopg [9] ml (fun kk jv wx => ∃ (j : Nat), kk = ml - j ∧ j ≤ ml ∧ jv = .int .i64 (j : Int) ∧ Hid (AnyLater W wx))
      case atStart => exact ⟨0, by omega, by omega, rfl, Lib.hid (by rw [HW.out]; exact AnyLater.refl _)⟩
      case round =>
        obtain ⟨j, hkj, hj, rfl, HJ⟩ := hrel
        by_cases hjl : j < ml
        · have hjt : j < m.length := by rw [HML.out.1]; exact hjl
          obtain ⟨b2, off2, rfl, hb2, hc2⟩ := HCell.out (by omega)
          obtain ⟨q0, q1⟩ := hc2 j hjt
          have HGj := Lib.hid (HGet.out wr HJ.out j hjt)
          have q0 := cell_on HJ.out q0
          have q1 := cell_on HJ.out q1
          generalize m[j] = X at *
          obtain ⟨p0, p1⟩ := X
          simp only at q0 q1 HGj
          clear hc2 hjt
          go_wp2_with fail
          refine HGj.out.mono ?_
          rintro e w8 ⟨rfl, b8⟩
          have q0 := cell_on b8 q0
          have q1 := cell_on b8 q1
          have a_w8 := HJ.out.trans b8
          go_wp2_with fail
          first | refine settle_wp (fun wS => AnyLater w8 wS ∧ wS.heap[w8.heap.size]? = some (.cells #[.int .i64 p0, .int .i64 p1] 34)) ?_ ?_ | refine settle_calls (fun wS => AnyLater w8 wS ∧ wS.heap[w8.heap.size]? = some (.cells #[.int .i64 p0, .int .i64 p1] 34)) ?_ ?_
          · refine ⟨?_, ?_⟩
            · repeat' (first | with_reducible assumption | with_reducible exact AnyLater.refl _ | with_reducible apply AnyLater.setCell | with_reducible apply AnyLater.later | with_reducible apply AnyLater.drewN | with_reducible apply AnyLater.drew | with_reducible apply AnyLater.alloc | ((try simp only [World.size_alloc, World.size_setCell, World.size_drew]); (try dsimp only); omega))
            · ((repeat (first | with_reducible assumption | ((with_reducible apply heap_new); (try simp only [World.size_alloc, World.size_setCell, World.size_drew, World.heap_drewN]); done) | ((with_reducible apply heap_new); (try simp only [World.size_alloc, World.size_setCell, World.size_drew, World.heap_drewN]); omega) | (with_reducible refine heap_old (by (try simp only [World.size_alloc, World.size_setCell, World.size_drew, World.heap_drewN]); omega) ?_) | (with_reducible refine heap_drew ?_) | (with_reducible refine heap_far (by omega) ?_) | (with_reducible apply heap_at))); all_goals rfl)
          rintro w9 ⟨b_w9, s0_w9⟩
          have a_w9 := a_w8.trans b_w9
          have r0_w9 := own_row s0_w9
          have f0_w9 := own_free s0_w9
          have l0_w9 := own_lt s0_w9
          have z_w9 := b_w9.below.size
          have q0 := cell_on b_w9 q0
          have q1 := cell_on b_w9 q1
          go_quiet (fail)
          have a_w10 : AnyLater W (w9.drewN nq) := a_w9.drewN nq
          generalize w9.drewN nq = w10 at *
          have B10 := Lib.hid a_w10
          clear a_w10 a_w9 b_w9
          go_wp2_with fail
          go_roundg (ml - (j + 1))
          case measure => omega
          case rel => exact ⟨j + 1, rfl, by omega, by go_num, B10⟩
        · obtain rfl : j = ml := by omega
          go_wp2_with fail
          refine (HLen.out _ HJ.out).mono ?_
          rintro e w5 ⟨rfl, b5⟩
          have B5 := Lib.hid (HJ.out.trans b5)
          clear b5
          go_wp2_with fail
          refine (HSm.out _ B5.out).mono ?_
          rintro e w6 ⟨rfl, b6⟩
          have B6 := Lib.hid (B5.out.trans b6)
          clear b6
          go_wp2_with fail
          refine (HRs.out _ B6.out).mono ?_
          rintro e w7 ⟨rfl, b7⟩
          have B7 := Lib.hid (B6.out.trans b7)
          clear b7
          go_wp2_with fail
          refine (HChk.out _ B7.out).mono ?_
          rintro e w8 ⟨rfl, b8⟩
          have B8 := Lib.hid (B7.out.trans b8)
          clear b8
          go_wp2_with fail
          refine (HLi.out _).mono ?_
          rintro e w9 ⟨rfl, b9⟩
          have B9 := Lib.hid (AW.out.trans (B8.out.trans b9))
          clear b9
          go_wp2_with fail
          go_ret
          exact ⟨rfl, B9.out⟩
end Go.Proofs.Ythgfmlfgbghfbaa
