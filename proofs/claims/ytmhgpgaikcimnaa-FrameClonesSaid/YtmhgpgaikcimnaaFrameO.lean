/- frame: FrameClones: a clone has the same pixels, no writes, and is apart; which frames are the same. -/
import Derived.Test.YtmhgpgaikcimnaaFrameM
namespace Go.Proofs.Ytmhgpgaikcimnaa
set_option linter.unusedSimpArgs false
set_option linter.unusedVariables false
set_option linter.unusedSectionVars false
open Go.RowKit

theorem set_take {α : Type} {A B : List α} {i : Nat} (ha : i < A.length) (hb : i < B.length) (h : A.take i = B.take i) : (A.set i B[i]).take (i + 1) = B.take (i + 1) := by
  rw [List.take_succ_eq_append_getElem hb, List.take_succ_eq_append_getElem (by simpa using ha), List.getElem_set_self, List.take_set_of_le (Nat.le_refl i), h]
theorem AM.Ok.later {w w' : World} {A : AM} (h : A.Ok w) (ha : AnyLater w w') : A.Ok w' := ⟨h.kind, h.n, h.r, h.c, h.l.later ha⟩
section
variable {Fr : World → Nat → FM → (Nat → Prop) → Prop}
set_option maxRecDepth 100000 in
set_option maxHeartbeats 12800000 in
theorem frameClones_any (F : FSays Fr) (w : World) (v : Value) (l : List AM) (A : AM) (hv : RA w v l) (hA0 : A.Ok w) :
    Calls Try.prog 6 #[v, actV A] w fun e w' => e = .returned (.bool true) ∧ AnyLater w w' := by
  obtain ⟨Ad, cap, rfl, hcl⟩ := hv.cells
  have HF := Lib.hid F
  have HO := Lib.hid (And.intro hv.ok hA0)
  have HCl := Lib.hid hcl
  have CV := Lib.hid (fun w' => lives_any F w')
  clear F hv hcl hA0
  unfold actV
  go_enter Try.func6, Try.ntmps6
  go_wp2_with fail
  first | refine settle_wp (fun wS => AnyLater w wS ∧ wS.heap[w.heap.size]? = some (.cells #[.int .i64 A.kind, .int .i64 A.n, .int .i64 A.r.x, .int .i64 A.r.y, .int .i64 A.r.a, .int .i64 A.r.b, .int .u32 A.c, A.v] 36)) ?_ ?_ | refine settle_calls (fun wS => AnyLater w wS ∧ wS.heap[w.heap.size]? = some (.cells #[.int .i64 A.kind, .int .i64 A.n, .int .i64 A.r.x, .int .i64 A.r.y, .int .i64 A.r.a, .int .i64 A.r.b, .int .u32 A.c, A.v] 36)) ?_ ?_
  · refine ⟨?_, ?_⟩
    · repeat' (first | with_reducible assumption | with_reducible exact AnyLater.refl _ | with_reducible apply AnyLater.setCell | with_reducible apply AnyLater.later | with_reducible apply AnyLater.drewN | with_reducible apply AnyLater.drew | with_reducible apply AnyLater.alloc | ((try simp only [World.size_alloc, World.size_setCell, World.size_drew]); (try dsimp only); omega))
    · ((repeat (first | with_reducible assumption | ((with_reducible apply heap_new); (try simp only [World.size_alloc, World.size_setCell, World.size_drew, World.heap_drewN]); done) | ((with_reducible apply heap_new); (try simp only [World.size_alloc, World.size_setCell, World.size_drew, World.heap_drewN]); omega) | (with_reducible refine heap_old (by (try simp only [World.size_alloc, World.size_setCell, World.size_drew, World.heap_drewN]); omega) ?_) | (with_reducible refine heap_drew ?_) | (with_reducible refine heap_far (by omega) ?_) | (with_reducible apply heap_at))); all_goals rfl)
  rintro w1 ⟨b_w1, s0_w1⟩
  have a_w1 := b_w1
  have r0_w1 := own_row s0_w1
  have f0_w1 := own_free s0_w1
  have l0_w1 := own_lt s0_w1
  have z_w1 := b_w1.below.size
  have CN := Lib.hid (HF.out.new 8 8 w1 (by decide) (by decide))
  have HB1 := Lib.hid (And.intro b_w1 s0_w1)
  clear r0_w1 f0_w1 l0_w1 z_w1 a_w1 s0_w1
  refine CN.out.mono ?_
  rintro e w2 ⟨a, S, rfl, b_w2, f2, hS⟩
  have CX := Lib.hid (xnew_any 8 8 w2 (by decide) (by decide))
  have HS := Lib.hid (And.intro f2 hS)
  clear f2 hS
  unfold ptr
  go_wp2_with fail
  refine CX.out.mono ?_
  rintro e w3 ⟨p, T, rfl, b_w3, x3, hT⟩
  have HM := Lib.hid (Mid.of HF.out (by decide) (by decide) b_w2 HS.out.1 HS.out.2 b_w3 x3 hT)
  clear x3 hT HS CX CN
  go_upto_block 0 with fail
  go_cut [] (fun wx => ∃ m S T, Mid Fr w1 a p 8 8 1200000000 wx m S T)
  case first =>
    go_wp2_with fail
    go_loopg [8] 20 (fun kk iv wr => ∃ i : Nat, kk = 20 - i ∧ i ≤ 20 ∧ i ≤ l.length ∧ iv = .int .i64 i ∧ ∃ m S T, Mid Fr w1 a p 8 8 (i * 60000000) wr m S T)
    case atStart => exact ⟨0, rfl, by decide, Nat.zero_le _, rfl, _, _, _, HM.out⟩
    case round =>
      obtain ⟨i, hk, h20, hl, rfl, m, S2, T2, hm⟩ := hrel
      have HM2 := Lib.hid hm
      clear hm
      by_cases hgo : i < l.length ∧ i < 20
      · obtain ⟨h1, h2⟩ := hgo
        obtain ⟨b, off, rfl, hb, hc⟩ := HCl.out (by omega)
        obtain ⟨c0, c1, c2, c3, c4, c5, c6, c7⟩ := hc i h1
        rw [← (HB1.out.1.trans HM2.out.later).below.cell hb] at c0 c1 c2 c3 c4 c5 c6 c7
        have CD := Lib.hid (HM2.out.does HF.out l[i] ((HO.out.1 i h1).later HB1.out.1) (by omega))
        unfold actV ptr at CD
        clear hc
        generalize l[i] = B at *
        go_wp2_with fail
        refine CD.out.mono ?_
        rintro e w4 ⟨rfl, m3, S3, T3, hm3⟩
        have HM3 := Lib.hid hm3
        clear hm3
        go_wp2_with fail
        go_roundg (20 - (i + 1))
        case measure => omega
        case rel => exact ⟨i + 1, rfl, by omega, by omega, by go_num, m3, S3, T3, by have := HM3.out; rwa [show ((i + 1 : Nat) : Int) * 60000000 = i * 60000000 + 60000000 by omega]⟩
      · have hx : l.length ≤ i ∨ (i < l.length ∧ 20 ≤ i) := by omega
        clear hgo
        rcases hx with h1 | ⟨h1, h2⟩
        all_goals
          go_wp2_with fail
          go_meet
          case rel => exact ⟨m, S2, T2, { HM2.out with n := by have := HM2.out.n; omega }⟩
  case rest =>
    obtain ⟨m, S2, T2, hm⟩ := hcut
    have HM2 := Lib.hid hm
    have CC := Lib.hid (HF.out.clone hm.both.f hm.both.small)
    have hsk : Small ⟨m.w, m.rows, 0⟩ := ⟨⟨hm.both.ok.wide⟩, hm.both.small.2.1, hm.both.small.2.2.1, Int.le_refl _, by show (0 : Int) ≤ _; omega⟩
    have HSK := Lib.hid hsk
    clear hm hsk HM HCl
    unfold ptr at CC
    go_wp2_with fail
    refine CC.out.mono ?_
    rintro e w4 ⟨c, SC, rfl, b_w4, fc, hSC⟩
    have HC := Lib.hid (And.intro b_w4 (And.intro fc hSC))
    have C1 := Lib.hid (HF.out.same (m := ⟨m.w, m.rows, 0⟩) (k := m) true (decide_eq_true ⟨rfl, rfl⟩) fc (HF.out.later HM2.out.both.f b_w4) HSK.out HM2.out.both.small)
    have C2 := Lib.hid (fun w' (h : AnyLater w4 w') => HF.out.same (m := m) (k := ⟨m.w, m.rows, 0⟩) true (decide_eq_true ⟨rfl, rfl⟩) (HF.out.later HM2.out.both.f (b_w4.trans h)) (HF.out.later fc h) HM2.out.both.small HSK.out)
    have C3 : Hid (∀ w', AnyLater w4 w' → Calls Try.prog 12 #[ptr c] w' fun e w'' => e = .returned (.int .i64 0) ∧ AnyLater w' w'') := Lib.hid (fun w' (h : AnyLater w4 w') => HF.out.writes (m := ⟨m.w, m.rows, 0⟩) (HF.out.later fc h) HSK.out)
    clear b_w4 fc hSC CC
    unfold ptr at C1 C2 C3
    go_wp2_with fail
    refine C1.out.mono ?_
    rintro e w5 ⟨rfl, b_w5⟩
    go_wp2_with fail
    refine (C2.out _ b_w5).mono ?_
    rintro e w6 ⟨rfl, b_w6⟩
    go_wp2_with fail
    refine (C3.out _ (b_w5.trans b_w6)).mono ?_
    rintro e w7 ⟨rfl, b_w7⟩
    have HL7 := Lib.hid (b_w5.trans (b_w6.trans b_w7))
    clear b_w5 b_w6 b_w7 C1 C2 C3
    have CY := Lib.hid (xnew_any 8 8 w7 (by decide) (by decide))
    go_wp2_with fail
    refine CY.out.mono ?_
    rintro e w8 ⟨y, TY, rfl, b_w8, x8, hTY⟩
    have HY := Lib.hid (And.intro b_w8 (And.intro x8 hTY))
    clear b_w8 x8 hTY CY
    go_wp2_with fail
    have HLen := Lib.hid HM2.out.mh
    have HWid := Lib.hid HM2.out.mw
    go_loopg [11] 8 (fun kk iv wr => ∃ i : Nat, kk = 8 - i ∧ i ≤ 8 ∧ iv = .int .i64 i ∧ AnyLater w7 wr ∧ ∃ (RY : Pix) (TY : Nat → Prop), RX wr y ⟨8, RY, 0⟩ TY ∧ RY.length = 8 ∧ RY.take i = m.rows.take i ∧ ∀ k, TY k → w7.heap.size ≤ k)
    case atStart => exact ⟨0, rfl, by decide, rfl, HY.out.1, _, TY, HY.out.2.1, by decide, by simp, HY.out.2.2⟩
    case round =>
      obtain ⟨i, hk, hi, rfl, a_wr, RY, TY2, hxy, hly, htk, hty⟩ := hrel
      have HX := Lib.hid (HM2.out.both.x.any ((HC.out.1.trans HL7.out).trans a_wr))
      have HR := Lib.hid (And.intro a_wr (And.intro hxy (And.intro hly (And.intro htk hty))))
      clear a_wr hxy hly htk hty
      by_cases hlt : i < 8
      · obtain ⟨a_wr, hxy, hly, htk, hty⟩ := HR.out
        obtain ⟨vx, rsx, hx⟩ := HX.out
        obtain ⟨qx, capx, curx, rfl, sqx, hqx, hcurx⟩ := hx.outer (by rw [HLen.out]; decide)
        have lx : i < rsx.length := by rw [hx.rows.len, HLen.out]; exact hlt
        have lx' : i < m.rows.length := by rw [HLen.out]; exact hlt
        obtain ⟨sg, hwc, hwl, cells, hg, hcells⟩ := hx.rows.each i lx lx'
        have hcx := hcurx i lx
        have hRU : RU wr (.slice (some ⟨rsx[i].1, 0, none⟩) m.w rsx[i].2) m.rows[i] := ⟨some ⟨rsx[i].1, 0, none⟩, rsx[i].2, by rw [hwl], by rw [hwl]; exact hwc, fun _ => ⟨rsx[i].1, 0, rfl, own_lt hg, fun x hx => by rw [own_row hg, Nat.zero_add]; exact hcells x hx⟩⟩
        obtain ⟨vy, rsy, hy⟩ := hxy
        obtain ⟨qy, capy, cury, rfl, sqy, hqy, hcury⟩ := hy.outer (by show 0 < RY.length; omega)
        have lyy : i < rsy.length := by rw [hy.rows.len]; show i < RY.length; omega
        have hcy := hcury i lyy
        have k1 : wr.cell? ⟨p, 1, none⟩ = some (.slice (some ⟨qx, 0, none⟩) 8 capx) := by rw [own_row hx.top, HLen.out]; rfl
        have k2 : wr.cell? ⟨qx, i, none⟩ = some (rowV m.w rsx[i]) := by rw [own_row hqx]; exact hcx
        have k3 : wr.cell? ⟨y, 1, none⟩ = some (.slice (some ⟨qy, 0, none⟩) 8 capy) := by rw [own_row hy.top]; show some (Value.slice _ RY.length _) = _; rw [hly]
        unfold rowV at k2
        have hrl : m.rows[i].length = 8 := by rw [hwl, HWid.out]
        rw [HWid.out] at k2 hRU
        obtain ⟨g1, c1, cells1, w9, m1, m2, m3, m4, m5, m6⟩ := run_copy (hRU.later ((AnyLater.refl wr).drew)) (by rw [hrl]; decide)
        rw [hrl] at m1 m5
        have b_w9 : AnyLater wr w9 := ((AnyLater.refl wr).drew).trans m2
        have ng : ¬ TY2 g1 := fun ht => by have h1 := hy.below _ ht; have h2 : wr.heap.size ≤ g1 := m3; omega
        have hy8 : RXr wr y ⟨8, RY, 0⟩ TY2 (.slice (some ⟨qy, 0, none⟩) 8 capy) rsy := by have := hy; simp only [hly] at this; exact this
        have hqy9 := any_own b_w9 hqy
        have hset := (hy8.any b_w9).setRow (i := i) hly hqy9 m4 ng m5 hrl m6
        have HJ : Hid (AnyLater w7 (w9.setCell ⟨qy, i, none⟩ (.slice (some ⟨g1, 0, none⟩) 8 c1)) ∧ ∃ (RY : Pix) (TY : Nat → Prop), RX (w9.setCell ⟨qy, i, none⟩ (.slice (some ⟨g1, 0, none⟩) 8 c1)) y ⟨8, RY, 0⟩ TY ∧ RY.length = 8 ∧ RY.take (i + 1) = m.rows.take (i + 1) ∧ ∀ k, TY k → w7.heap.size ≤ k) := by
          refine Lib.hid ⟨(a_wr.trans b_w9).setCell (hty _ sqy) _, RY.set i m.rows[i], _, ⟨_, _, hset⟩, by rw [List.length_set]; exact hly, set_take (by omega) lx' htk, fun k hk => ?_⟩
          rcases hk with hk | hk
          · exact hty k hk
          · rw [hk]; have h2 : wr.heap.size ≤ g1 := m3; have := a_wr.below.size; omega
        have k4 : wr.cell? ⟨qy, i, none⟩ = some (rowV 8 rsy[i]) := by rw [own_row hqy]; exact hcy
        unfold rowV at k4
        have k9 := cell_on b_w9 k4
        have f_q9 := own_free hqy9
        have K1 := Lib.hid (And.intro m1 (And.intro b_w9 m2))
        generalize rsy[i] = ey at *
        generalize rsx[i] = ex at *
        obtain ⟨g0, c0⟩ := ex
        simp only at k2
        clear hx hy hy8 hset hqx hqy hqy9 hcurx hcury hcx hcy hg hcells hwl hwc hRU sg sqx sqy m1 m2 m3 m4 m5 m6 ng hty htk hly lx lyy hrl k4
        go_wp2_with fail
        apply wp_region_acts 15 [(5, .slice (some ⟨wr.heap.size, 0, none⟩) 0 0), (13, .slice (some ⟨g1, 0, none⟩) 8 c1)] (fun w' => w'.cell? ⟨p, 1, none⟩ = some (.slice (some ⟨qx, 0, none⟩) 8 capx) ∧ w'.cell? ⟨qx, i, none⟩ = some (.slice (some ⟨g0, 0, none⟩) 8 c0) ∧ w'.cell? ⟨y, 1, none⟩ = some (.slice (some ⟨qy, 0, none⟩) 8 capy))
          (stL [fun w' => w' = wr.drew, fun w' => w' = wr.drew.alloc (.cells #[] 33), fun w' => w' = w9]) (by kernel_rfl) (by kernel_rfl) (by kernel_rfl) ⟨k1, k2, k3⟩ rfl
        case hlex =>
          intro U hU
          obtain ⟨q1, q2, q3⟩ := hU
          simp only [actFrom, actOp, List.lookup, Nat.reduceBEq, Nat.reduceLeDiff, Nat.reduceAdd, if_false, if_true]
          repeat (go_big_quiet_step (fail))
          exact wpQuiet_nil rfl
        case hact =>
          intro j hj o ho
          have hj3 : j = 0 ∨ j = 1 := by simp at hj; omega
          rcases hj3 with rfl | rfl
          · cases ho
            refine ⟨rfl, fun w' hC hS => ?_⟩
            obtain rfl : w' = wr.drew := hS
            have ha : AnyLater wr.drew (wr.drew.alloc (.cells #[] 33)) := (AnyLater.refl _).alloc _
            exact act_value (w' := wr.drew.alloc (.cells #[] 33)) (by simp [go_sem, execOp]) ⟨⟨cell_on ha hC.1, cell_on ha hC.2.1, cell_on ha hC.2.2⟩, rfl⟩
          · cases ho
            refine ⟨rfl, fun w' hC hS => ?_⟩
            obtain rfl : w' = wr.drew.alloc (.cells #[] 33) := hS
            exact act_append _ _ _ _ rfl _ _ rfl rfl K1.out.1 ⟨⟨cell_on K1.out.2.1 k1, cell_on K1.out.2.1 k2, cell_on K1.out.2.1 k3⟩, rfl⟩
        case htail =>
          intro w' hC hS
          obtain rfl : w' = w9 := hS
          obtain ⟨q1, q2, q3⟩ := hC
          simp only [List.drop_succ_cons, List.drop_zero, List.drop_nil]
          go_wp2_with fail
          go_roundg (8 - (i + 1))
          case measure => omega
          case rel => exact ⟨i + 1, rfl, by omega, by go_num, HJ.out.1, HJ.out.2⟩
      · obtain rfl : i = 8 := by omega
        obtain ⟨a_wr, hxy, hly, htk, hty⟩ := HR.out
        rw [List.take_of_length_le (Nat.le_of_eq hly), List.take_of_length_le (Nat.le_of_eq HLen.out)] at htk
        subst htk
        rw [← HWid.out] at hxy
        obtain ⟨b_w4, fc, hSC⟩ := HC.out
        have a47 := HL7.out
        have ac : AnyLater wc wr := b_w4.trans (a47.trans a_wr)
        have fcw := HF.out.later fc (a47.trans a_wr)
        have ap : Apart SC TY2 := fun k hs ht => by have := HF.out.below fc k hs; have := hty k ht; have := a47.below.size; omega
        have hT2 : ∀ k, TY2 k → wc.heap.size ≤ k := fun k hk => by have := hty k hk; have := (b_w4.trans a47).below.size; omega
        have hboth : Both Fr wr c y ⟨m.w, m.rows, 0⟩ SC TY2 := ⟨fcw, hxy, ap, HSK.out.1, by show m.w ≤ 40; rw [HWid.out]; decide, by show m.rows.length ≤ 40; rw [hly]; decide, Int.le_refl _, by show (0 : Int) ≤ 10000000000; decide⟩
        have CD := Lib.hid (does_any HF.out wc wr ac c y _ SC TY2 hSC hT2 A hboth (HO.out.2.later (HB1.out.1.trans HM2.out.later)))
        have s0_wr := any_own (HM2.out.later.trans ac) HB1.out.2
        have r0_wr := own_row s0_wr
        have HA := Lib.hid (And.intro ac (And.intro hSC hT2))
        clear hxy hly hty b_w4 fc hSC fcw ap hT2 hboth a47 ac a_wr
        unfold actV ptr at CD
        go_wp2_with fail
        refine CD.out.mono ?_
        rintro e w10 ⟨rfl, m', S', T', f', x', k', gs, gt, ok', ew, eh, n0, n1, ap'⟩
        have a10 := k'.any HA.out.1 (fun k hk => hk.elim (HA.out.2.1 k) (HA.out.2.2 k))
        simp only at ew eh n0 n1
        have hs' : Small m' := ⟨ok', by rw [ew, HWid.out]; decide, by rw [eh, HLen.out]; decide, by omega, by omega⟩
        have hw5 : m'.w ≤ 5000 := by rw [ew, HWid.out]; decide
        have hh5 : m'.rows.length ≤ 5000 := by rw [eh, HLen.out]; decide
        have gw5 : m.w ≤ 5000 := by rw [HWid.out]; decide
        have gh5 : m.rows.length ≤ 5000 := by rw [HLen.out]; decide
        obtain ⟨bb, hbb⟩ : ∃ bb, sameB m' m = bb := ⟨_, rfl⟩
        have L1 := Lib.hid (like_any HF.out w10 a p m m S2 T2 true (sameB_self m) (HF.out.later HM2.out.both.f a10) (HM2.out.both.x.any a10) HM2.out.both.small HM2.out.both.ok gw5 gh5)
        have L2 := Lib.hid (fun w' (h : AnyLater w10 w') => like_any HF.out w' c y m' m' S' T' true (sameB_self m') (HF.out.later f' h) (x'.any h) hs' ok' hw5 hh5)
        have L3 := Lib.hid (fun w' (h : AnyLater w10 w') => HF.out.same bb hbb (HF.out.later f' h) (HF.out.later HM2.out.both.f (a10.trans h)) hs' HM2.out.both.small)
        have L4 := Lib.hid (fun w' (h : AnyLater w10 w') => like_any HF.out w' c p m' m S' T2 bb hbb (HF.out.later f' h) (HM2.out.both.x.any (a10.trans h)) hs' ok' gw5 gh5)
        have L5 := Lib.hid (fun w' (h : AnyLater w10 w') => HF.out.sameNone (HF.out.later HM2.out.both.f (a10.trans h)) HM2.out.both.small)
        have L6 := Lib.hid (fun w' => HF.out.noneSame w')
        have HA10 := Lib.hid (HB1.out.1.trans (HM2.out.later.trans a10))
        clear f' x' k' gs gt ok' ew eh n0 n1 ap' a10 hs' hw5 hh5 gw5 gh5 hbb r0_wr s0_wr
        unfold ptr at L1 L2 L3 L4 L5
        go_wp2_with fail
        refine L1.out.mono ?_
        rintro e w11 ⟨rfl, b_w11⟩
        go_wp2_with fail
        refine (L2.out _ b_w11).mono ?_
        rintro e w12 ⟨rfl, b_w12⟩
        have a_w12 := b_w11.trans b_w12
        clear b_w11 b_w12
        go_wp2_with fail
        refine (L3.out _ a_w12).mono ?_
        rintro e w13 ⟨rfl, b_w13⟩
        have a_w13 := a_w12.trans b_w13
        clear a_w12 b_w13
        go_wp2_with fail
        refine (L4.out _ a_w13).mono ?_
        rintro e w14 ⟨rfl, b_w14⟩
        have a_w14 := a_w13.trans b_w14
        clear a_w13 b_w14
        go_wp2_with fail
        refine (L5.out _ a_w14).mono ?_
        rintro e w15 ⟨rfl, b_w15⟩
        have a_w15 := a_w14.trans b_w15
        clear a_w14 b_w15
        go_wp2_with fail
        refine (L6.out _).mono ?_
        rintro e w16 ⟨rfl, b_w16⟩
        have a_w16 := a_w15.trans b_w16
        clear a_w15 b_w16
        go_wp2_with fail
        refine (CV.out _).mono ?_
        rintro e w17 ⟨rfl, b_w17⟩
        go_wp2_with fail
        go_ret
        exact ⟨rfl, HA10.out.trans (a_w16.trans b_w17)⟩
end
end Go.Proofs.Ytmhgpgaikcimnaa
