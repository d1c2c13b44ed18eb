/- glyph: GlyphDraws: which pixels any glyph leaves in a frame, and how many are written. -/
import Derived.Test.YtfliniknaonieaaGlyG
import Derived.Test.YtfliniknaonieaaGlyD
import Derived.Test.YtfliniknaonieaaSteps
import Derived.Test.YtfliniknaonieaaFrameJ
import Derived.Deep.CutBlock
import Derived.Deep.DeepCutAuto
namespace Go.Proofs.Ytfliniknaonieaa
set_option linter.unusedSimpArgs false
set_option linter.unusedVariables false
set_option linter.unusedSectionVars false
open Go.RowKit

theorem RU.keepsNew {T : Nat → Prop} {w0 w5 wr : World} {v : Value} {l : List Int} (h : RU w0 v l) (ha : AnyLater w0 w5) (hk : Keeps T w5 wr) (hT : ∀ k, T k → w0.heap.size ≤ k) : RU wr v l := by
  obtain ⟨A, cap, h1, h2, h3⟩ := h
  refine ⟨A, cap, h1, h2, fun h0 => ?_⟩
  obtain ⟨b, off, e, hb, hc⟩ := h3 h0
  have hblk := (hk.block b (Nat.lt_of_lt_of_le hb ha.below.size) (fun ht => by have := hT b ht; omega)).trans (ha.below.block b hb)
  exact ⟨b, off, e, Nat.lt_of_lt_of_le hb (Nat.le_trans ha.below.size hk.size), fun j hj => by rw [← hc j hj]; simp [World.cell?, hblk]⟩
theorem IsG.keepsNew {T : Nat → Prop} {w0 w5 wr : World} {g : GM} {v : Value} (h : IsG g v w0) (ha : AnyLater w0 w5) (hk : Keeps T w5 wr) (hT : ∀ k, T k → w0.heap.size ≤ k) : IsG g v wr := by
  obtain ⟨s, h1, h2⟩ := h
  exact ⟨s, h1, h2.keepsNew ha hk hT⟩
theorem own_keeps {T : Nat → Prop} {w0 w5 wr : World} {b : Nat} {o : Obj} (h : w0.heap[b]? = some o) (ha : AnyLater w0 w5) (hk : Keeps T w5 wr) (hT : ∀ k, T k → w0.heap.size ≤ k) : wr.heap[b]? = some o :=
  ((hk.block b (Nat.lt_of_lt_of_le (own_lt h) ha.below.size) (fun ht => by have := hT b ht; have := own_lt h; omega)).trans (ha.below.block b (own_lt h))).trans h
section
variable {Fr : World → Nat → FM → (Nat → Prop) → Prop}
set_option maxRecDepth 100000 in
set_option maxHeartbeats 51200000 in
theorem glyphDraws_any (F : FSays Fr) (G : GSays) (D : DSays Fr) (g : GM) (v : Value) (w : World) (hv : IsG g v w) (hok : g.Ok) (ax ay c : Int) (hax : I64 ax) (hay : I64 ay) (hc : U32 c) :
    Calls Try.prog 7 #[v, .agg #[.int .i64 ax, .int .i64 ay], .int .u32 c] w fun e w' => e = .returned (.bool true) ∧ AnyLater w w' := by
  have HFr := Lib.hid F
  have HG := Lib.hid G
  have HD := Lib.hid D
  have HV := Lib.hid hv
  obtain ⟨A0, n0, cap0, rfl, -⟩ := hv.form
  have hkk := few_few g
  have hkl := few_len g
  have hko := few_ok hok
  have HF := Lib.hid (fun w' (ha : AnyLater w w') => few_any g _ w' (HV.out.later ha))
  have HU := Lib.hid hc
  clear F G D hv hok hc
  generalize g.w = W0 at *
  generalize g.h = H0 at *
  go_enter Try.func7, Try.ntmps7
  go_wp2_with fail
  first | refine settle_wp (fun wS => AnyLater w wS ∧ wS.heap[w.heap.size]? = some (.cells #[.int .i64 W0, .int .i64 H0, .slice A0 n0 cap0] 51) ∧ wS.heap[w.heap.size + 1]? = some (.cells #[.int .i64 ax, .int .i64 ay] 56)) ?_ ?_ | refine settle_calls (fun wS => AnyLater w wS ∧ wS.heap[w.heap.size]? = some (.cells #[.int .i64 W0, .int .i64 H0, .slice A0 n0 cap0] 51) ∧ wS.heap[w.heap.size + 1]? = some (.cells #[.int .i64 ax, .int .i64 ay] 56)) ?_ ?_
  · refine ⟨?_, ?_, ?_⟩
    · repeat' (first | with_reducible assumption | with_reducible exact AnyLater.refl _ | with_reducible apply AnyLater.setCell | with_reducible apply AnyLater.later | with_reducible apply AnyLater.drewN | with_reducible apply AnyLater.drew | with_reducible apply AnyLater.alloc | ((try simp only [World.size_alloc, World.size_setCell, World.size_drew]); (try dsimp only); omega))
    · ((repeat (first | with_reducible assumption | ((with_reducible apply heap_new); (try simp only [World.size_alloc, World.size_setCell, World.size_drew, World.heap_drewN]); done) | ((with_reducible apply heap_new); (try simp only [World.size_alloc, World.size_setCell, World.size_drew, World.heap_drewN]); omega) | (with_reducible refine heap_old (by (try simp only [World.size_alloc, World.size_setCell, World.size_drew, World.heap_drewN]); omega) ?_) | (with_reducible refine heap_drew ?_) | (with_reducible refine heap_far (by omega) ?_) | (with_reducible apply heap_at))); all_goals rfl)
    · ((repeat (first | with_reducible assumption | ((with_reducible apply heap_new); (try simp only [World.size_alloc, World.size_setCell, World.size_drew, World.heap_drewN]); done) | ((with_reducible apply heap_new); (try simp only [World.size_alloc, World.size_setCell, World.size_drew, World.heap_drewN]); omega) | (with_reducible refine heap_old (by (try simp only [World.size_alloc, World.size_setCell, World.size_drew, World.heap_drewN]); omega) ?_) | (with_reducible refine heap_drew ?_) | (with_reducible refine heap_far (by omega) ?_) | (with_reducible apply heap_at))); all_goals rfl)
  rintro w1 ⟨b_w1, s0_w1, s1_w1⟩
  have a_w1 := b_w1
  have r0_w1 := own_row s0_w1
  have f0_w1 := own_free s0_w1
  have l0_w1 := own_lt s0_w1
  have r1_w1 := own_row s1_w1
  have f1_w1 := own_free s1_w1
  have l1_w1 := own_lt s1_w1
  have z_w1 := b_w1.below.size
  refine (HF.out w1 a_w1).mono ?_
  rintro e w2 ⟨u, rfl, b2, hf⟩
  have s2_w2 := any_own b2 s0_w1
  have t2_w2 := any_own b2 s1_w1
  have r2_w2 := own_row s2_w2
  have f2_w2 := own_free s2_w2
  have l2_w2 := own_lt s2_w2
  have a_w2 := a_w1.trans b2
  clear s0_w1 r0_w1 f0_w1 l0_w1 s1_w1 r1_w1 f1_w1 l1_w1 b2 b_w1 z_w1 a_w1 HF HV
  generalize few g = k at *
  have HK := Lib.hid hf
  obtain ⟨A, n, cap, rfl, hn⟩ := hf.form
  clear hf
  have HN := Lib.hid hn
  have HKO := Lib.hid hko
  have HKL := Lib.hid hkl
  have HX := Lib.hid hax
  have HY := Lib.hid hay
  have HLv := Lib.hid (fun w' => glives_any HG.out w')
  obtain ⟨gd, hgd⟩ : ∃ c, goodG k = c := ⟨_, rfl⟩
  have HGD := Lib.hid hgd
  obtain ⟨⟨w1', w2'⟩, ⟨h1', h2'⟩, _⟩ := hko
  have HKK := Lib.hid hkk
  clear hgd hkk hkl hn
  go_upto_region 2 with fail
  refine settle_wp (fun wS => AnyLater w wS ∧ Keeps (fun b => b = w.heap.size) w2 wS ∧ wS.heap[w.heap.size]? = some (.cells #[.int .i64 k.w, .int .i64 k.h, .slice A n cap] 51)) ⟨?_, ?_, ?_⟩ ?_
  · repeat' (first | with_reducible assumption | with_reducible exact AnyLater.refl _ | with_reducible apply AnyLater.setCell | with_reducible apply AnyLater.later | with_reducible apply AnyLater.drewN | with_reducible apply AnyLater.drew | with_reducible apply AnyLater.alloc | ((try simp only [World.size_alloc, World.size_setCell, World.size_drew]); (try dsimp only); omega))
  · refine Keeps.setCell (Keeps.setCell (Keeps.setCell (Keeps.refl _ _) ?_ _) ?_ _) ?_ _ <;> rfl
  · exact heap_at (heap_at (heap_at s2_w2 rfl) rfl) rfl
  rintro w3 ⟨a_w3, k3, s0_w3⟩
  have s1_w3 : w3.heap[w.heap.size + 1]? = some (.cells #[.int .i64 ax, .int .i64 ay] 56) := (k3.block _ (own_lt t2_w2) (by omega)).trans t2_w2
  have HK3 := Lib.hid (HK.out.keeps k3 (fun b hb => by subst hb; exact box_no32 s2_w2))
  have HS3 := Lib.hid (And.intro s0_w3 s1_w3)
  clear s2_w2 t2_w2 r2_w2 f2_w2 l2_w2 k3 a_w2 s0_w3 s1_w3 HK
  have CN := Lib.hid (HFr.out.new 20 16 w3 (by decide) (by decide))
  go_wp2_with fail
  refine CN.out.mono ?_
  rintro e w4 ⟨a, S, rfl, b4, f4, hS⟩
  have CX := Lib.hid (xnew_any 20 16 w4 (by decide) (by decide))
  have HF4 := Lib.hid (And.intro f4 hS)
  have B4 := Lib.hid b4
  clear f4 hS b4 CN
  unfold ptr
  go_wp2_with fail
  refine CX.out.mono ?_
  rintro e w5 ⟨p, T, rfl, b5, x5, hT⟩
  have f5 := HFr.out.later HF4.out.1 b5
  have B5 := Lib.hid (B4.out.trans b5)
  have HT : Hid (∀ k, T k → w3.heap.size ≤ k) := Lib.hid (fun k hk => Nat.le_trans B4.out.below.size (hT k hk))
  have HSb : Hid (∀ k, S k → w3.heap.size ≤ k) := Lib.hid HF4.out.2
  have HST : Hid (Apart S T) := Lib.hid (fun k hs ht => by have := HFr.out.below HF4.out.1 k hs; have := hT k ht; omega)
  have HF5 := Lib.hid f5
  have HX5 := Lib.hid x5
  clear x5 f5 hT b5 CX HF4 B4
  have s0_w5 := any_own B5.out HS3.out.1
  have s1_w5 := any_own B5.out HS3.out.2
  obtain ⟨nr, hnr⟩ : ∃ b, nearB ax ay = b := ⟨_, rfl⟩
  have HNR := Lib.hid hnr
  have r0_w5 := own_row s0_w5
  have r1_w5 := own_row s1_w5
  go_upto_region 6 with fail
  go_cut [11] (fun b wx => b = .bool nr ∧ wx = w5)
  case first =>
    obtain ⟨ax1, ax2⟩ := hax
    obtain ⟨ay1, ay2⟩ := hay
    clear hnr
    by_cases q1 : -1048576 ≤ ax
    · by_cases q2 : ax ≤ 1048576
      · by_cases q3 : -1048576 ≤ ay
        · go_wp2_with fail
          all_goals
            go_meet
            case rel => exact ⟨by rw [← HNR.out]; unfold nearB; congr 1; rw [Bool.eq_iff_iff]; simp; omega, rfl⟩
        · go_wp2_with fail
          go_meet
          case rel => exact ⟨by rw [← HNR.out]; unfold nearB; congr 1; rw [Bool.eq_iff_iff]; simp; omega, rfl⟩
      · go_wp2_with fail
        go_meet
        case rel => exact ⟨by rw [← HNR.out]; unfold nearB; congr 1; rw [Bool.eq_iff_iff]; simp; omega, rfl⟩
    · go_wp2_with fail
      go_meet
      case rel => exact ⟨by rw [← HNR.out]; unfold nearB; congr 1; rw [Bool.eq_iff_iff]; simp; omega, rfl⟩
  case rest =>
    obtain ⟨rfl, hw⟩ := hcut
    subst hw
    obtain ⟨M0, hM0⟩ : ∃ m, newM 20 16 = m := ⟨_, rfl⟩
    have m0w : M0.w = 20 := by rw [← hM0]; rfl
    have m0h : M0.rows.length = 16 := by rw [← hM0]; simp [newM]
    have m0n : M0.n = 0 := by rw [← hM0]; rfl
    have m0o : M0.Ok := by rw [← hM0]; exact newM_ok _ _
    rw [hM0] at HX5 HF5
    have HM0 : Hid (M0.w = 20 ∧ M0.rows.length = 16 ∧ M0.n = 0 ∧ M0.Ok) := Lib.hid ⟨m0w, m0h, m0n, m0o⟩
    clear hM0 m0w m0h m0n m0o hnr
    obtain ⟨MD, hMD⟩ : ∃ m, drawM k ax ay c M0 = m := ⟨_, rfl⟩
    have HMD := Lib.hid hMD
    obtain ⟨nd, hnd⟩ : ∃ q, MD.n = q := ⟨_, rfl⟩
    have HND := Lib.hid hnd
    clear hMD hnd
    go_upto_block 0 with fail
    go_cut [10] (fun nv wx => nv = .int .i64 nd ∧ Keeps T wc wx ∧ RX wx p MD T)
    case first =>
      clear r0_w5 r1_w5 s0_w5 s1_w5
      have CG : Hid (∀ wr, Keeps T wc wr → Calls Try.prog 22 #[.agg #[.int .i64 k.w, .int .i64 k.h, .slice A n cap]] wr fun e w'' => e = .returned (.bool gd) ∧ AnyLater wr w'') := Lib.hid (fun wr hK => refGoodG_any k _ wr gd HGD.out (HK3.out.keepsNew B5.out hK HT.out) HKO.out (by have := HKL.out; omega))
      have r0_wc := own_row (own_keeps HS3.out.1 B5.out (Keeps.refl T wc) HT.out)
      have r1_wc := own_row (own_keeps HS3.out.2 B5.out (Keeps.refl T wc) HT.out)
      cases nr with
      | false =>
        have e : MD = M0 := by rw [← HMD.out]; unfold drawM; rw [HNR.out]; rfl
        have e2 : Hid (nd = 0 ∧ MD = M0) := Lib.hid ⟨by rw [← HND.out, e]; exact HM0.out.2.2.1, e⟩
        clear e
        go_wp2_with fail
        refine wp_loop_rounds 1 ?_
        rw [rounds_succ]
        go_wp2_with fail
        go_meet
        case rel => exact ⟨by rw [e2.out.1], Keeps.refl _ _, by rw [e2.out.2]; exact HX5.out⟩
      | true =>
        cases gd with
        | false =>
          have e : MD = M0 := by rw [← HMD.out]; unfold drawM; rw [HGD.out, Bool.and_false]; rfl
          have e2 : Hid (nd = 0 ∧ MD = M0) := Lib.hid ⟨by rw [← HND.out, e]; exact HM0.out.2.2.1, e⟩
          clear e
          go_wp2_with fail
          refine wp_loop_rounds 1 ?_
          rw [rounds_succ]
          go_wp2_with fail
          refine (CG.out wc (Keeps.refl _ _)).mono ?_
          rintro e w6 ⟨rfl, b6⟩
          go_wp2_with fail
          go_meet
          case rel => exact ⟨by rw [e2.out.1], Keeps.of b6, by rw [e2.out.2]; exact HX5.out.any b6⟩
        | true =>
          obtain ⟨gi1, gi2, gi3, gi4, gi5, gi6⟩ := goodG_in HGD.out
          have hnear : -1048576 ≤ ax ∧ ax ≤ 1048576 ∧ -1048576 ≤ ay ∧ ay ≤ 1048576 := of_decide_eq_true HNR.out
          obtain ⟨ax1, ax2, ay1, ay2⟩ := hnear
          have HMD2 : Hid (dY k ax ay c M0 40 = MD) := Lib.hid (by rw [← HMD.out]; unfold drawM; rw [HNR.out, HGD.out]; rfl)
          have HGr : Hid (∀ j : Nat, Grew M0 (dY k ax ay c M0 j) (j * 800000000)) := Lib.hid (fun j => dY_grew k ax ay c M0 (by rw [HM0.out.1]; decide) (by rw [HM0.out.2.1]; decide) j)
          have HB : Hid (∀ (i j : Nat) wr, Keeps T wc wr → i ≤ 32 → j ≤ 40 → Calls Try.prog 23 #[.agg #[.int .i64 k.w, .int .i64 k.h, .slice A n cap], .int .i64 i, .int .i64 j] wr fun e w'' => e = .returned (.bool (hasB k i j)) ∧ AnyLater wr w'') := Lib.hid (fun i j wr hK hi hj => refBit_any k _ i j wr _ rfl (HK3.out.keepsNew B5.out hK HT.out) HKO.out gi2 (by have := HKL.out; omega) (by unfold I64; omega) (by unfold I64; omega))
          clear r0_wc r1_wc gi1 gi2 gi3 gi4 gi5 gi6 w1' w2' h1' h2'
          go_wp2_with fail
          go_loopg [10, 12] 40 (fun kk nv jv wr => ∃ (j : Nat) (mj : FM) (nj : Int), kk = 40 - j ∧ j ≤ 40 ∧ jv = .int .i64 j ∧ nv = .int .i64 nj ∧ (dY k ax ay c M0 j = mj ∧ mj.n = nj) ∧ Keeps T wc wr ∧ RX wr p mj T)
          case atStart => exact ⟨0, M0, 0, by omega, by omega, rfl, rfl, ⟨rfl, HM0.out.2.2.1⟩, Keeps.refl _ _, HX5.out⟩
          case round =>
            obtain ⟨j, mj, nj, hk, hj, rfl, rfl, hm, hK, hX⟩ := hrel
            have HM := Lib.hid hm
            have HKX := Lib.hid (And.intro hK hX)
            have r0_wr := own_row (own_keeps HS3.out.1 B5.out hK HT.out)
            have hgr := HGr.out j
            rw [hm.1] at hgr
            have gn0 := hgr.n0
            have gn1 := hgr.n1
            rw [hm.2, HM0.out.2.2.1] at gn0 gn1
            have HGj := Lib.hid hgr
            clear hm hgr
            by_cases hlt : j < 40
            · have hltI : (j : Int) < 40 := by omega
              clear hK hX
              go_wp2_with fail
              refine (CG.out wr HKX.out.1).mono ?_
              rintro e w6 ⟨rfl, b6⟩
              have HKX6 := Lib.hid (And.intro (HKX.out.1.trans (Keeps.of b6)) (HKX.out.2.any b6))
              clear b6 r0_wr
              go_wp2_with fail
              go_loopg [10, 13] 32 (fun kk nv iv wr => ∃ (i : Nat) (mi : FM) (ni : Int), kk = 32 - i ∧ i ≤ 32 ∧ iv = .int .i64 i ∧ nv = .int .i64 ni ∧ (dX k ax ay c j mj i = mi ∧ mi.n = ni) ∧ Keeps T wc wr ∧ RX wr p mi T)
              case atStart => exact ⟨0, mj, nj, by omega, by omega, rfl, rfl, ⟨rfl, HM.out.2⟩, HKX6.out.1, HKX6.out.2⟩
              case round =>
                obtain ⟨i, mi, ni, hk2, hi, rfl, rfl, hmi, hK, hX⟩ := hrel
                have HMi := Lib.hid hmi
                have HKXi := Lib.hid (And.intro hK hX)
                have r0_wr := own_row (own_keeps HS3.out.1 B5.out hK HT.out)
                have hgr := dX_grew k ax ay c j mj (by rw [HGj.out.w, HM0.out.1]; decide) (by rw [HGj.out.h, HM0.out.2.1]; decide) i
                rw [hmi.1] at hgr
                have gi0 := hgr.n0
                have gi1 := hgr.n1
                rw [hmi.2, HM.out.2] at gi0 gi1
                have HGi := Lib.hid (HGj.out.trans hgr)
                clear hmi hgr
                by_cases hli : i < 32
                · have hliI : (i : Int) < 32 := by omega
                  have HBi := Lib.hid (HB.out i j wr hK (by omega) (by omega))
                  clear hK hX
                  rcases hb : hasB k i j
                  · rw [hb] at HBi
                    have HZ : Hid (dX k ax ay c j mj (i + 1) = mi) := Lib.hid (by rw [dX, hb, if_neg (by decide)]; exact HMi.out.1)
                    clear hb
                    go_wp2_with fail
                    refine HBi.out.mono ?_
                    rintro e w7 ⟨rfl, b7⟩
                    have HKX7 := Lib.hid (And.intro (HKXi.out.1.trans (Keeps.of b7)) (HKXi.out.2.any b7))
                    clear b7 r0_wr
                    go_wp2_with fail
                    go_roundg (32 - (i + 1))
                    case measure => omega
                    case rel => exact ⟨i + 1, mi, ni, rfl, by omega, by go_num, rfl, ⟨HZ.out, HMi.out.2⟩, HKX7.out.1, HKX7.out.2⟩
                  · rw [hb] at HBi
                    have HZ : Hid (dX k ax ay c j mj (i + 1) = fillM (unitR ax ay i j) c mi) := Lib.hid (by rw [dX, hb, if_pos rfl, HMi.out.1])
                    clear hb
                    go_wp2_with fail
                    refine HBi.out.mono ?_
                    rintro e w7 ⟨rfl, b7⟩
                    have hK7 := HKXi.out.1.trans (Keeps.of b7)
                    have HKX7 := Lib.hid (And.intro hK7 (HKXi.out.2.any b7))
                    have r0_w7 := own_row (own_keeps HS3.out.1 B5.out hK7 HT.out)
                    have r1_w7 := own_row (own_keeps HS3.out.2 B5.out hK7 HT.out)
                    obtain ⟨q, hq⟩ : ∃ q, cntA (unitR ax ay i j) mi.w mi.rows.length = q := ⟨_, rfl⟩
                    have hqb := cntA_max (r := unitR ax ay i j) (w := mi.w) (y := mi.rows.length) (by rw [HGi.out.w, HM0.out.1]; decide) (by rw [HGi.out.h, HM0.out.2.1]; decide)
                    rw [hq] at hqb
                    have HQ : Hid ((fillM (unitR ax ay i j) c mi).n = ni + q) := Lib.hid (by unfold fillM; rw [hq, HMi.out.2])
                    have CF := Lib.hid (xfill_any w7 p mi T (unitR ax ay i j) c q HKX7.out.2 ⟨by show I64 (ax + i); unfold I64; omega, by show I64 (ay + j); unfold I64; omega, by show I64 1; unfold I64; omega, by show I64 1; unfold I64; omega⟩ (by rw [HGi.out.w, HM0.out.1]; decide) (by rw [HGi.out.h, HM0.out.2.1]; decide) (by rw [HMi.out.2]; omega) hq)
                    unfold rtV unitR at CF
                    clear b7 r0_wr hK7 hq
                    go_wp2_with fail
                    refine CF.out.mono ?_
                    rintro e w8 ⟨rfl, k8, x8⟩
                    have HKX8 := Lib.hid (And.intro (HKX7.out.1.trans k8) x8)
                    clear k8 x8 r0_w7 r1_w7
                    go_wp2_with fail
                    go_roundg (32 - (i + 1))
                    case measure => omega
                    case rel => exact ⟨i + 1, fillM (unitR ax ay i j) c mi, ni + q, rfl, by omega, by go_num, rfl, ⟨HZ.out, HQ.out⟩, HKX8.out.1, HKX8.out.2⟩
                · obtain rfl : i = 32 := by omega
                  clear hK hX
                  go_wp2_with fail
                  go_roundg (40 - (j + 1))
                  case measure => omega
                  case rel => exact ⟨j + 1, mi, ni, rfl, by omega, by go_num, rfl, ⟨by rw [dY, HM.out.1]; exact HMi.out.1, HMi.out.2⟩, HKXi.out.1, HKXi.out.2⟩
            · obtain rfl : j = 40 := by omega
              have e : Hid (mj = MD ∧ nj = nd) := Lib.hid (by
                have h1 : mj = MD := by rw [← HM.out.1, HMD2.out]
                exact ⟨h1, by rw [← HM.out.2, h1, HND.out]⟩)
              clear hK hX
              go_wp2_with fail
              go_meet
              case rel => exact ⟨by rw [e.out.2], HKX.out.1, by rw [← e.out.1]; exact HKX.out.2⟩
    case rest =>
      obtain ⟨rfl, hK, hX⟩ := hcut
      have HK6 := Lib.hid hK
      have HX6 := Lib.hid hX
      have HF6 := Lib.hid (HFr.out.apart HF5.out hK HST.out)
      have HKc := Lib.hid (HK3.out.keepsNew B5.out hK HT.out)
      have s0_wc := own_keeps HS3.out.1 B5.out hK HT.out
      have s1_wc := own_keeps HS3.out.2 B5.out hK HT.out
      have hgr : Grew M0 MD 32000000000 := by
        rw [← HMD.out]
        unfold drawM
        split
        · exact (dY_grew k ax ay c M0 (by rw [HM0.out.1]; decide) (by rw [HM0.out.2.1]; decide) 40).more (by decide)
        · exact (Grew.refl M0).more (by decide)
      have HGr := Lib.hid hgr
      have nb0 := hgr.n0
      have nb1 := hgr.n1
      rw [HND.out, HM0.out.2.2.1] at nb0 nb1
      have hsm0 : Small M0 := ⟨HM0.out.2.2.2, by rw [HM0.out.1]; decide, by rw [HM0.out.2.1]; decide, by rw [HM0.out.2.2.1]; decide, by rw [HM0.out.2.2.1]; decide⟩
      have hsmD : Small MD := ⟨hgr.ok HM0.out.2.2.2, by rw [hgr.w, HM0.out.1]; decide, by rw [hgr.h, HM0.out.2.1]; decide, by rw [HND.out]; exact nb0, by rw [HND.out]; omega⟩
      have HSm := Lib.hid (And.intro hsm0 hsmD)
      have a_wc : AnyLater w wc := hK.any (a_w3.trans B5.out) (fun q hq => Nat.le_trans a_w3.below.size (HT.out q hq))
      have HA := Lib.hid a_wc
      have hbS : ∀ q, S q → w.heap.size + 1 < q := fun q hq => by have := HSb.out q hq; have := own_lt HS3.out.2; omega
      have HbS := Lib.hid hbS
      have HSlt : Hid (∀ q, S q → q < wc.heap.size) := Lib.hid (HFr.out.below HF6.out)
      clear hK hX hgr hsm0 hsmD a_wc hbS s0_w5 s1_w5 r0_w5 r1_w5
      have r0_wc := own_row s0_wc
      have r1_wc := own_row s1_wc
      go_wp2_with fail
      apply wp_region_steps 23 [(2, undef), (8, .int .i64 nd), (14, .bool true), (19, .int .i64 nd)] [⟨2, 81, IsG k⟩] (fun x => x.heap[w.heap.size]? = some (.cells #[.int .i64 k.w, .int .i64 k.h, .slice A n cap] 51) ∧ x.heap[w.heap.size + 1]? = some (.cells #[.int .i64 ax, .int .i64 ay] 56))
        (fun j g => stL [fun x => AnyLater wc x, fun x => AnyLater wc x ∧ IsG k (g 2) x ∧ FreshG wc.heap.size (g 2), fun x => ∃ S2, Keeps S wc x ∧ Fr x a MD S2 ∧ RX x p MD T, fun x => ∃ S2, Keeps S wc x ∧ Fr x a MD S2 ∧ RX x p MD T, fun x => ∃ S2, Keeps S wc x ∧ Fr x a MD S2 ∧ RX x p MD T] j)
        (by kernel_rfl) (by kernel_rfl) (by kernel_rfl) (by kernel_rfl) (by simp) (by kernel_rfl) ⟨heap_drew s0_wc, heap_drew s1_wc⟩ (fun g => (AnyLater.refl wc).drew)
      case hlex =>
        intro U hU
        have q0 := own_row hU.1
        have q1 := own_row hU.2
        simp only [actFrom, actOp, List.lookup, Nat.reduceBEq, Nat.reduceLeDiff, Nat.reduceAdd, if_false, if_true]
        repeat (go_big_quiet_step (fail))
        exact wpQuiet_nil rfl
      case hact =>
        intro j hj o ho
        have hj4 : j = 0 ∨ j = 1 ∨ j = 2 ∨ j = 3 := by simp at hj; omega
        rcases hj4 with rfl | rfl | rfl | rfl
        · cases ho
          refine ⟨rfl, fun g x hC hS => ?_⟩
          have hS : AnyLater wc x := hS
          simp only [fillAll, Act.put, List.setIfInBounds_toArray, List.set_cons_zero, List.set_cons_succ]
          refine chain_go ?_ ((few_both k _ x (HKc.out.later hS)).mono ?_)
          · simp [go_sem, execOp]
          · rintro e x2 ⟨u, rfl, b, h1, h2⟩
            refine ⟨u, rfl, ⟨any_own b hC.1, any_own b hC.2⟩, .inl ⟨_, List.mem_singleton.2 rfl, rfl⟩, ?_⟩
            show AnyLater wc x2 ∧ IsG k (updG g 2 u 2) x2 ∧ FreshG wc.heap.size (updG g 2 u 2)
            have e2 : updG g 2 u 2 = u := by unfold updG; rw [if_pos rfl]
            rw [e2]
            rw [HKK.out] at h1
            exact ⟨hS.trans b, h1, fun x' y' b' o' n' c' he => Nat.le_trans hS.below.size (h2 x' y' b' o' n' c' he)⟩
        · cases ho
          refine ⟨rfl, fun g x hC hS => ?_⟩
          obtain ⟨h1, h2, h3⟩ : AnyLater wc x ∧ IsG k (g 2) x ∧ FreshG wc.heap.size (g 2) := hS
          simp only [fillAll, Act.put, List.setIfInBounds_toArray, List.set_cons_zero, List.set_cons_succ]
          refine chain_go ?_ ((HD.out.draw ax ay c nd (by rw [HMD.out, HND.out, HM0.out.2.2.1]; omega) (HFr.out.later HF6.out h1) HSm.out.1 h2 (fun x' y' b' o' n' c' he hs => by have := h3 x' y' b' o' n' c' he; have := HSlt.out _ hs; omega) HKO.out HKL.out HX.out HY.out HU.out).mono ?_)
          · simp [go_sem, execOp, ptr]
          · rintro e x2 ⟨rfl, k2, S2, f2, _⟩
            have kk := (Keeps.of (S := S) h1).trans k2
            refine ⟨_, rfl, ⟨(k2.block _ (own_lt hC.1) (fun hs => by have := HbS.out _ hs; omega)).trans hC.1, (k2.block _ (own_lt hC.2) (fun hs => by have := HbS.out _ hs; omega)).trans hC.2⟩, .inr rfl, ?_⟩
            show ∃ S2, Keeps S wc x2 ∧ Fr x2 a MD S2 ∧ RX x2 p MD T
            rw [HMD.out] at f2
            exact ⟨S2, kk, f2, HX6.out.apart kk HST.out.symm⟩
        · cases ho
          refine ⟨rfl, fun g x hC hS => ?_⟩
          obtain ⟨S2, h1, h2, h3⟩ : ∃ S2, Keeps S wc x ∧ Fr x a MD S2 ∧ RX x p MD T := hS
          simp only [fillAll, Act.put, List.setIfInBounds_toArray, List.set_cons_zero, List.set_cons_succ]
          refine chain_go ?_ ((like_any HFr.out x a p MD MD S2 T true (by unfold sameB; simp) h2 h3 HSm.out.2 HSm.out.2.1 (by have := HSm.out.2.2.1; omega) (by have := HSm.out.2.2.2.1; omega)).mono ?_)
          · simp [go_sem, execOp, ptr]
          · rintro e x2 ⟨rfl, b⟩
            exact ⟨_, rfl, ⟨any_own b hC.1, any_own b hC.2⟩, .inr rfl, S2, h1.trans (Keeps.of b), HFr.out.later h2 b, h3.any b⟩
        · cases ho
          refine ⟨rfl, fun g x hC hS => ?_⟩
          obtain ⟨S2, h1, h2, h3⟩ : ∃ S2, Keeps S wc x ∧ Fr x a MD S2 ∧ RX x p MD T := hS
          simp only [fillAll, Act.put, List.setIfInBounds_toArray, List.set_cons_zero, List.set_cons_succ]
          refine chain_go ?_ ((HFr.out.writes h2 HSm.out.2).mono ?_)
          · simp [go_sem, execOp, ptr]
          · rintro e x2 ⟨rfl, b⟩
            exact ⟨_, rfl, ⟨any_own b hC.1, any_own b hC.2⟩, .inr (by rw [HND.out]; rfl), S2, h1.trans (Keeps.of b), HFr.out.later h2 b, h3.any b⟩
      case htail =>
        intro g w7 hC hS
        obtain ⟨S2, h1, _, _⟩ : ∃ S2, Keeps S wc w7 ∧ Fr w7 a MD S2 ∧ RX w7 p MD T := hS
        have a_w7 : AnyLater w w7 := h1.any HA.out (fun q hq => by have := HbS.out q hq; omega)
        simp only [fillAll, Act.put, List.setIfInBounds_toArray, List.set_cons_zero, List.set_cons_succ, List.drop_succ_cons, List.drop_zero, List.drop_nil]
        have HC7 := Lib.hid hC
        have A7 := Lib.hid a_w7
        have kk : Keeps (fun q => S q ∨ T q) _ w7 := (HK6.out.wide (fun q _ hq => Or.inr hq)).trans (h1.wide (fun q _ hq => Or.inl hq))
        have HK7 := Lib.hid (HK3.out.keepsNew B5.out kk (fun q hq => hq.elim (HSb.out q) (HT.out q)))
        have CG7 : Hid (∀ w', AnyLater w7 w' → Calls Try.prog 22 #[.agg #[.int .i64 k.w, .int .i64 k.h, .slice A n cap]] w' fun e w'' => e = .returned (.bool gd) ∧ AnyLater w' w'') := Lib.hid (fun w' ha => refGoodG_any k _ w' gd HGD.out (HK7.out.later ha) HKO.out (by have := HKL.out; omega))
        have HF7 : Hid (∀ w', AnyLater w7 w' → Shows 21 #[.agg #[.int .i64 k.w, .int .i64 k.h, .slice A n cap]] w' (IsG k)) := Lib.hid (fun w' ha => by
          have := few_any k _ w' (HK7.out.later ha)
          rw [HKK.out] at this
          exact this)
        clear hC h1 a_w7 kk s0_wc s1_wc r0_wc r1_wc
        go_upto_region 17 with fail
        go_cut [14] (fun b wx => ∃ al : Bool, b = .bool al ∧ (al = true → gd = true ∧ 0 ≤ ax ∧ 0 ≤ ay ∧ ax ≤ 20 - k.w ∧ ay ≤ 16 - k.h) ∧ AnyLater w7 wx)
        case first =>
          obtain ⟨ax1, ax2⟩ := hax
          obtain ⟨ay1, ay2⟩ := hay
          have r0_w7 := own_row HC7.out.1
          have r1_w7 := own_row HC7.out.2
          cases gd with
          | false =>
            obtain ⟨q20, hq20⟩ : ∃ q, wrap64 (20 - k.w) = q := ⟨_, rfl⟩
            obtain ⟨q16, hq16⟩ : ∃ q, wrap64 (16 - k.h) = q := ⟨_, rfl⟩
            by_cases a0 : 0 ≤ ax
            · by_cases a1 : 0 ≤ ay
              · by_cases a2 : ax ≤ q20
                · by_cases a3 : ay ≤ q16
                  · go_wp2_with fail
                    refine (CG7.out _ (AnyLater.refl _)).mono ?_
                    rintro e w8 ⟨rfl, b8⟩
                    go_wp2_with fail
                    go_meet
                    case rel => exact ⟨false, rfl, (fun h => by cases h), b8⟩
                  · go_wp2_with fail
                    go_meet
                    case rel => exact ⟨false, rfl, (fun h => by cases h), AnyLater.refl _⟩
                · go_wp2_with fail
                  go_meet
                  case rel => exact ⟨false, rfl, (fun h => by cases h), AnyLater.refl _⟩
              · go_wp2_with fail
                go_meet
                case rel => exact ⟨false, rfl, (fun h => by cases h), AnyLater.refl _⟩
            · go_wp2_with fail
              go_meet
              case rel => exact ⟨false, rfl, (fun h => by cases h), AnyLater.refl _⟩
          | true =>
            obtain ⟨gi1, gi2, gi3, gi4, gi5, gi6⟩ := goodG_in HGD.out
            clear gi5 gi6
            by_cases a0 : 0 ≤ ax
            · by_cases a1 : 0 ≤ ay
              · by_cases a2 : ax ≤ 20 - k.w
                · by_cases a3 : ay ≤ 16 - k.h
                  · go_wp2_with fail
                    refine (CG7.out _ (AnyLater.refl _)).mono ?_
                    rintro e w8 ⟨rfl, b8⟩
                    have r0_w8 := own_row (any_own b8 HC7.out.1)
                    clear r0_w7 r1_w7
                    go_wp2_with fail
                    all_goals
                      go_meet
                      case rel => first | exact ⟨_, rfl, (fun _ => ⟨trivial, a0, a1, a2, a3⟩), b8⟩ | exact ⟨_, rfl, (fun _ => ⟨rfl, a0, a1, a2, a3⟩), b8⟩
                  · go_wp2_with fail
                    go_meet
                    case rel => exact ⟨false, rfl, (fun h => by cases h), AnyLater.refl _⟩
                · go_wp2_with fail
                  go_meet
                  case rel => exact ⟨false, rfl, (fun h => by cases h), AnyLater.refl _⟩
              · go_wp2_with fail
                go_meet
                case rel => exact ⟨false, rfl, (fun h => by cases h), AnyLater.refl _⟩
            · go_wp2_with fail
              go_meet
              case rel => exact ⟨false, rfl, (fun h => by cases h), AnyLater.refl _⟩
        case rest =>
          obtain ⟨al, rfl, hal, b8⟩ := hcut
          have B8 := Lib.hid b8
          cases al with
          | false =>
            clear b8 hal
            go_wp2_with fail
            refine (HLv.out _).mono ?_
            rintro e w9 ⟨rfl, b9⟩
            go_wp2_with fail
            go_ret
            exact ⟨rfl, A7.out.trans (B8.out.trans b9)⟩
          | true =>
            obtain ⟨rfl, a0, a1, a2, a3⟩ := hal rfl
            obtain ⟨gi1, gi2, gi3, gi4, gi5, gi6⟩ := goodG_in HGD.out
            have hnb : nearB ax ay = true := decide_eq_true (by omega)
            have hct : countG k = nd := by
              have h1 : MD = dY k ax ay c M0 40 := by rw [← HMD.out]; unfold drawM; rw [hnb, HGD.out]; rfl
              have h2 := draw_count (c := c) (m := M0) (by rw [HM0.out.1]; decide) (by rw [HM0.out.2.1]; decide) HGD.out a0 a1 (by rw [HM0.out.1]; omega) (by rw [HM0.out.2.1]; omega)
              rw [← h1, HND.out, HM0.out.2.2.1] at h2
              omega
            have HCt := Lib.hid hct
            have s0_w8 := any_own b8 HC7.out.1
            have r0_w8 := own_row s0_w8
            clear hct b8 hal a0 a1 a2 a3 gi1 gi2 gi3 gi4 gi5 gi6 hnb
            go_wp2_with fail
            refine (HF7.out _ B8.out).mono ?_
            rintro e w9 ⟨u, rfl, b9, h9⟩
            have CC := Lib.hid (HG.out.count nd HCt.out h9 HKO.out HKL.out)
            have B9 := Lib.hid (B8.out.trans b9)
            clear b9 h9 r0_w8
            go_wp2_with fail
            refine CC.out.mono ?_
            rintro e w10 ⟨rfl, b10⟩
            have B10 := Lib.hid (B9.out.trans b10)
            clear b10
            go_wp2_with fail
            refine (HLv.out _).mono ?_
            rintro e w11 ⟨rfl, b11⟩
            go_wp2_with fail
            go_ret
            exact ⟨rfl, A7.out.trans (B10.out.trans b11)⟩
end
end Go.Proofs.Ytfliniknaonieaa
