/- frame: FrameBack: what is shifted and shifted back. -/
import Derived.Test.YtmhgpgaikcimnaaFrameK
import Derived.Test.YtmhgpgaikcimnaaLoose
import Derived.Deep.CutBlock
import Derived.Deep.DeepCutAuto
namespace Go.Proofs.Ytmhgpgaikcimnaa
set_option linter.unusedSimpArgs false
set_option linter.unusedVariables false
set_option linter.unusedSectionVars false
open Go.RowKit

theorem shift_back (m : FM) (d : Int) (y : Nat) (h : y < m.rows.length) (h1 : 0 ≤ (y : Int) + d) (h2 : (y : Int) + d < (m.rows.length : Int)) : lineM (y : Int) (shiftM (-d) (shiftM d m)) = m.rows[y] := by
  obtain ⟨n, hn⟩ : ∃ n, m.rows.length = n := ⟨_, rfl⟩
  have e1 : fromY n (-d) y = ((y : Int) + d).toNat := by unfold fromY; rw [if_pos (by omega)]; omega
  have e2 : fromY n d ((y : Int) + d).toNat = y := by unfold fromY; rw [if_pos (by omega)]; omega
  have hl : (shiftR d m.rows).length = n := by rw [shiftR_len, hn]
  have hl2 : (shiftR (-d) (shiftR d m.rows)).length = n := by rw [shiftR_len, hl]
  unfold lineM shiftM
  simp only
  rw [if_pos (by rw [hl2]; omega), Int.toNat_natCast, List.getD_eq_getElem?_getD, List.getElem?_eq_getElem (by rw [hl2]; omega), Option.getD_some, shiftR_get _ _ _ (by rw [hl]; omega)]
  simp only [hl, e1]
  rw [shiftR_get _ _ _ (by omega)]
  simp only [hn, e2]
section
variable {Fr : World → Nat → FM → (Nat → Prop) → Prop}
set_option maxRecDepth 100000 in
set_option maxHeartbeats 12800000 in
theorem frameBack_any (F : FSays Fr) (w : World) (v : Value) (l : List AM) (by_ : Int) (hv : RA w v l) (hb : I64 by_) :
    Calls Try.prog 5 #[v, .int .i64 by_] w fun e w' => e = .returned (.bool true) ∧ AnyLater w w' := by
  obtain ⟨Ad, cap, rfl, hcl⟩ := hv.cells
  have HF := Lib.hid F
  have HA := Lib.hid hv
  have HCl := Lib.hid hcl
  have CN := Lib.hid (F.new 6 12 w (by decide) (by decide))
  clear F hv hcl
  go_enter Try.func5, Try.ntmps5
  go_wp2_with fail
  refine CN.out.mono ?_
  rintro e w1 ⟨a, S, rfl, b_w1, f1, hS⟩
  have CX := Lib.hid (xnew_any 6 12 w1 (by decide) (by decide))
  have HS := Lib.hid (And.intro f1 hS)
  clear f1 hS
  unfold ptr
  go_wp2_with fail
  refine CX.out.mono ?_
  rintro e w2 ⟨p, T, rfl, b_w2, x2, hT⟩
  have HM := Lib.hid (Mid.of HF.out (by decide) (by decide) b_w1 HS.out.1 HS.out.2 b_w2 x2 hT)
  clear x2 hT HS CX CN
  go_upto_block 0 with fail
  go_cut [] (fun wx => ∃ m S T, Mid Fr w a p 6 12 1200000000 wx m S T)
  case first =>
    go_wp2_with fail
    go_loopg [8] 20 (fun kk iv wr => ∃ i : Nat, kk = 20 - i ∧ i ≤ 20 ∧ i ≤ l.length ∧ iv = .int .i64 i ∧ ∃ m S T, Mid Fr w a p 6 12 (i * 60000000) wr m S T)
    case atStart => exact ⟨0, rfl, by decide, Nat.zero_le _, rfl, _, _, _, HM.out⟩
    case round =>
      obtain ⟨i, hk, h20, hl, rfl, m, S2, T2, hm⟩ := hrel
      have HM2 := Lib.hid hm
      clear hm
      by_cases hgo : i < l.length ∧ i < 20
      · obtain ⟨h1, h2⟩ := hgo
        obtain ⟨b, off, rfl, hb, hc⟩ := HCl.out (by omega)
        obtain ⟨c0, c1, c2, c3, c4, c5, c6, c7⟩ := hc i h1
        rw [← HM2.out.later.below.cell hb] at c0 c1 c2 c3 c4 c5 c6 c7
        have CD := Lib.hid (HM2.out.does HF.out l[i] (HA.out.ok i h1) (by omega))
        unfold actV ptr at CD
        clear hc
        generalize l[i] = A at *
        go_wp2_with fail
        refine CD.out.mono ?_
        rintro e w3 ⟨rfl, m3, S3, T3, hm3⟩
        have HM3 := Lib.hid hm3
        clear hm3
        go_wp2_with fail
        go_roundg (20 - (i + 1))
        case measure => omega
        case rel => exact ⟨i + 1, rfl, by omega, by omega, by go_num, m3, S3, T3, by have := HM3.out; rwa [show ((i + 1 : Nat) : Int) * 60000000 = i * 60000000 + 60000000 by omega]⟩
      · have hx : l.length ≤ i ∨ (i < l.length ∧ 20 ≤ i) := by omega
        clear hgo
        rcases hx with h1 | ⟨h1, h2⟩
        all_goals
          go_wp2_with fail
          go_meet
          case rel => exact ⟨m, S2, T2, { HM2.out with n := by have := HM2.out.n; omega }⟩
  case rest =>
    obtain ⟨m, S2, T2, hm⟩ := hcut
    have HM2 := Lib.hid hm
    clear hm
    go_upto_region 9 with fail
    go_cut [43] (fun bv wx => bv = .bool (decide (by_ < -12 ∨ 12 < by_)) ∧ wx = wc)
    case first =>
      by_cases h1 : by_ < -12
      · have HD : Hid (true = decide (by_ < -12 ∨ 12 < by_)) := Lib.hid (by rw [decide_eq_true (Or.inl h1)])
        go_wp2_with fail
        go_meet
        case rel => exact ⟨by rw [HD.out], rfl⟩
      · by_cases h2 : 12 < by_
        · have HD : Hid (true = decide (by_ < -12 ∨ 12 < by_)) := Lib.hid (by rw [decide_eq_true (Or.inr h2)])
          go_wp2_with fail
          go_meet
          case rel => exact ⟨by rw [HD.out], rfl⟩
        · have HD : Hid (false = decide (by_ < -12 ∨ 12 < by_)) := Lib.hid (by rw [decide_eq_false (by omega)])
          go_wp2_with fail
          go_meet
          case rel => exact ⟨by rw [HD.out], rfl⟩
    case rest =>
      obtain ⟨rfl, rfl⟩ := hcut
      go_upto_if 43 with fail
      go_cut [1] (fun dv wx => ∃ d : Int, dv = .int .i64 d ∧ -12 ≤ d ∧ d ≤ 12 ∧ wx = wc)
      case first =>
        by_cases hd : by_ < -12 ∨ 12 < by_
        · have HD : Hid (decide (by_ < -12 ∨ 12 < by_) = true) := Lib.hid (decide_eq_true hd)
          clear hd
          rw [HD.out]
          go_wp2_with fail
          go_meet
          case rel => exact ⟨3, rfl, by decide, by decide, rfl⟩
        · have HD : Hid (decide (by_ < -12 ∨ 12 < by_) = false) := Lib.hid (decide_eq_false hd)
          have HB := Lib.hid hd
          clear hd
          rw [HD.out]
          go_wp2_with fail
          go_meet
          case rel => exact ⟨by_, rfl, by have := HB.out; omega, by have := HB.out; omega, rfl⟩
      case rest =>
        obtain ⟨d, rfl, d1, d2, rfl⟩ := hcut
        have hs1 : Small (shiftM d m) := ⟨shiftM_ok HM2.out.both.ok, HM2.out.both.small.2.1, by show (shiftR d m.rows).length ≤ 4096; rw [shiftR_len]; exact HM2.out.both.small.2.2.1, HM2.out.both.small.2.2.2.1, HM2.out.both.small.2.2.2.2⟩
        have hs2 : Small (shiftM (-d) (shiftM d m)) := ⟨shiftM_ok hs1.1, hs1.2.1, by show (shiftR (-d) (shiftM d m).rows).length ≤ 4096; rw [shiftR_len]; exact hs1.2.2.1, hs1.2.2.2.1, hs1.2.2.2.2⟩
        have HS1 := Lib.hid hs1
        have HS2 := Lib.hid hs2
        clear hs1 hs2
        have hwm := HM2.out.mw
        have hhm := HM2.out.mh
        have HH := Lib.hid (And.intro hwm hhm)
        have CS := Lib.hid (HF.out.shift d HM2.out.both.f HM2.out.both.small (by unfold I64; omega))
        unfold ptr at CS
        clear hwm hhm
        go_wp2_with fail
        refine CS.out.mono ?_
        rintro e w3 ⟨rfl, k3, S3, f3, g3⟩
        have CS2 := Lib.hid (HF.out.shift (-d) f3 HS1.out (by unfold I64; omega))
        have x3 := HM2.out.both.x.apart k3 HM2.out.both.ap.symm
        have HX3 := Lib.hid x3
        have HA3 := Lib.hid (k3.any HM2.out.later HM2.out.s0)
        have HP3 := Lib.hid (HM2.out.both.ap.grown g3 HM2.out.both.x.below)
        have HG3 : Hid (∀ k, S3 k → w.heap.size ≤ k) := Lib.hid (fun k hk => (g3 k hk).elim (HM2.out.s0 k) (Nat.le_trans HM2.out.later.below.size))
        clear k3 f3 g3 x3
        unfold ptr at CS2
        go_wp2_with fail
        refine CS2.out.mono ?_
        rintro e w4 ⟨rfl, k4, S4, f4, g4⟩
        obtain ⟨vx, rs, hx⟩ := HX3.out.apart k4 HP3.out.symm
        have HA4 := Lib.hid (k4.any HA3.out HG3.out)
        have HX := Lib.hid hx
        have HF4 := Lib.hid f4
        clear k4 f4 g4 hx
        have CV := Lib.hid (fun w' => lives_any HF.out w')
        go_wp2_with fail
        go_loopg [9] 12 (fun kk yv wr => ∃ y : Nat, kk = 12 - y ∧ y ≤ 12 ∧ yv = .int .i64 y ∧ AnyLater w4 wr)
        case atStart => exact ⟨0, rfl, by decide, rfl, AnyLater.refl _⟩
        case round =>
          obtain ⟨y, hk, hy, rfl, a_wr⟩ := hrel
          have HA := Lib.hid a_wr
          by_cases hlt : y < 12
          · by_cases g1 : 0 ≤ (y : Int) + d
            · by_cases g2 : (y : Int) + d < 12
              · have hx2 := HX.out.any a_wr
                obtain ⟨q, cap2, cur, rfl, sq, hq, hcur⟩ := hx2.outer (by rw [HH.out.2]; omega)
                have ly : y < rs.length := by rw [hx2.rows.len, HH.out.2]; exact hlt
                have ly' : y < m.rows.length := by rw [HH.out.2]; exact hlt
                obtain ⟨sg, hwc, hwl, cells, hg, hcells⟩ := hx2.rows.each y ly ly'
                have hcy := hcur y ly
                have s0_wr := hx2.top
                have r_p := own_row s0_wr
                have r_q := own_row hq
                have hRU : RU wr (.slice (some ⟨rs[y].1, 0, none⟩) m.w rs[y].2) m.rows[y] := ⟨some ⟨rs[y].1, 0, none⟩, rs[y].2, by rw [hwl], by rw [hwl]; exact hwc, fun _ => ⟨rs[y].1, 0, rfl, own_lt hg, fun x hx => by rw [own_row hg, Nat.zero_add]; exact hcells x hx⟩⟩
                have HLn : Hid (∀ w', AnyLater wr w' → Calls Try.prog 17 #[ptr a, .int .i64 y] w' fun e w'' => ∃ v, e = .returned v ∧ AnyLater w' w'' ∧ RU w'' v m.rows[y]) := Lib.hid (fun w' hw => by
                  have := HF.out.line (y : Int) (HF.out.later HF4.out (a_wr.trans hw)) HS2.out (by unfold I64; omega)
                  rw [shift_back m d y ly' g1 (by rw [HH.out.2]; exact g2)] at this
                  exact this)
                have HEq : Hid (m.rows[y].length ≤ 100000) := Lib.hid (by rw [hwl]; rw [HH.out.1]; decide)
                have C1 : Hid (∀ w', AnyLater wr w' → w'.cell? ⟨p, 1, none⟩ = some (.slice (some ⟨q, 0, none⟩) m.rows.length cap2)) := Lib.hid (fun w' hw => cell_on hw (by rw [own_row s0_wr]; rfl))
                have hcy2 : wr.cell? ⟨q, y, none⟩ = some (rowV m.w rs[y]) := by rw [own_row hq]; exact hcy
                unfold rowV at hcy2 hcy
                have C2 : Hid (∀ w', AnyLater wr w' → w'.cell? ⟨q, y, none⟩ = some (.slice (some ⟨rs[y].1, 0, none⟩) m.w rs[y].2)) := Lib.hid (fun w' hw => cell_on hw hcy2)
                have HRU := Lib.hid (fun w' (hw : AnyLater wr w') => hRU.later hw)
                have iy : (y : Int) < (m.rows.length : Int) := by rw [HH.out.2]; omega
                generalize rs[y] = e at *
                obtain ⟨g0, c0⟩ := e
                simp only at C2 HRU hcy
                clear hx2 hcur hq hg hcells hwl hwc hRU sq sg s0_wr hcy2
                generalize m.rows[y] = row at *
                unfold ptr at HLn
                have e1 : decide (0 ≤ (y : Int) + d) = true := decide_eq_true g1
                have e2 : decide ((y : Int) + d < 12) = true := decide_eq_true g2
                clear g1 g2
                go_wp2_with fail
                have k1 := C1.out wr (AnyLater.refl wr)
                have k2 := C2.out wr (AnyLater.refl wr)
                apply wp_region_loose (21) [⟨13, 68, (fun v w' => RU w' v row)⟩] (by kernel_rfl) (by kernel_rfl) (by simp)
                case hstab =>
                  intro e he v x y hxy hv
                  simp only [List.mem_cons, List.not_mem_nil, or_false] at he
                  rcases he with rfl
                  · exact (fun h1 h2 => RU.later h2 h1) hxy hv
                case hlex =>
                  intro U
                  have q_k1 := fun (v : Later (later U)) => cell_on (AnyLater.trans ⟨U, rfl⟩ ⟨v, rfl⟩) k1
                  have q_k2 := fun (v : Later (later U)) => cell_on (AnyLater.trans ⟨U, rfl⟩ ⟨v, rfl⟩) k2
                  simp only [absFrom, absOp, idx, List.map_cons, List.map_nil, List.contains_cons, List.contains_nil, Nat.reduceBEq, Bool.or_false, Bool.false_or, Bool.true_or, Bool.or_true, Bool.false_eq_true, Nat.reduceLeDiff, Nat.reduceAdd, if_false, if_true]
                  repeat (go_big_quiet_step (first | fail))
                  exact wpQuiet_nil rfl
                case hown =>
                  intro e he o ho
                  simp only [List.mem_cons, List.not_mem_nil, or_false] at he
                  rcases he with rfl
                  · cases ho; refine ⟨rfl, ?_⟩; intro x hx; simp [go_sem, execOp]; exact (HLn.out x hx).mono (by rintro e w' ⟨v, rfl, h1, h2⟩; exact ⟨v, rfl, h1, h2⟩)
                case htail =>
                  intro g u hst
                  have b_w5 : AnyLater wr (later u) := ⟨u, rfl⟩
                  generalize later u = w5 at *
                  clear u
                  have p68_w5 := hst _ (List.mem_of_getElem? (i := 0) rfl)
                  dsimp only at p68_w5
                  clear hst
                  simp only [fillAll, Act.put, List.setIfInBounds_toArray, List.set_cons_zero, List.set_cons_succ, List.drop_succ_cons, List.drop_zero]
                  generalize g 13 = v68 at *
                  have z_w5 := b_w5.below.size
                  have a_w5 := a_wr.trans b_w5
                  have k1_w5 := cell_on b_w5 k1
                  have k2_w5 := cell_on b_w5 k2
                  have HR5 := Lib.hid p68_w5
                  clear p68_w5
                  go_wp2_with fail
                  refine (same_any _ _ row row _ true (decide_eq_true rfl) HR5.out (HRU.out _ b_w5) HEq.out).mono ?_
                  rintro e w6 ⟨rfl, b_w6⟩
                  go_wp2_with fail
                  go_roundg (12 - (y + 1))
                  case measure => omega
                  case rel => exact ⟨y + 1, rfl, by omega, by go_num, HA.out.trans (b_w5.trans b_w6)⟩
              · have e1 : decide (0 ≤ (y : Int) + d) = true := decide_eq_true g1
                have e2 : decide ((y : Int) + d < 12) = false := decide_eq_false g2
                go_wp2_with fail
                apply wp_region_mem (24) [] (by kernel_rfl) (by kernel_rfl) (by simp)
                case hstab =>
                  intro e he v x y hxy hv
                  simp only [List.mem_cons, List.not_mem_nil, or_false] at he
                case hlex =>
                  intro U
                  simp only [absFrom, absOp, idx, List.map_cons, List.map_nil, List.contains_cons, List.contains_nil, Nat.reduceBEq, Bool.or_false, Bool.false_or, Bool.true_or, Bool.or_true, Bool.false_eq_true, Nat.reduceLeDiff, Nat.reduceAdd, if_false, if_true]
                  repeat (go_big_quiet_step (first | fail))
                  exact wpQuiet_nil rfl
                case hown =>
                  intro e he o ho
                  simp only [List.mem_cons, List.not_mem_nil, or_false] at he
                case htail =>
                  intro g u hst hne
                  have b_w5 : AnyLater wr (later u) := ⟨u, rfl⟩
                  generalize later u = w5 at *
                  clear u
                  clear hst hne
                  simp only [fillAll, Act.put, List.setIfInBounds_toArray, List.set_cons_zero, List.set_cons_succ, List.drop_succ_cons, List.drop_zero]
                  have z_w5 := b_w5.below.size
                  have a_w5 := a_wr.trans b_w5
                  all_goals
                    go_wp2_with fail
                    go_roundg (12 - (y + 1))
                    case measure => omega
                    case rel => exact ⟨y + 1, rfl, by omega, by go_num, HA.out.trans b_w5⟩
            · have e1 : decide (0 ≤ (y : Int) + d) = false := decide_eq_false g1
              go_wp2_with fail
              apply wp_region_mem (24) [] (by kernel_rfl) (by kernel_rfl) (by simp)
              case hstab =>
                intro e he v x y hxy hv
                simp only [List.mem_cons, List.not_mem_nil, or_false] at he
              case hlex =>
                intro U
                simp only [absFrom, absOp, idx, List.map_cons, List.map_nil, List.contains_cons, List.contains_nil, Nat.reduceBEq, Bool.or_false, Bool.false_or, Bool.true_or, Bool.or_true, Bool.false_eq_true, Nat.reduceLeDiff, Nat.reduceAdd, if_false, if_true]
                repeat (go_big_quiet_step (first | fail))
                exact wpQuiet_nil rfl
              case hown =>
                intro e he o ho
                simp only [List.mem_cons, List.not_mem_nil, or_false] at he
              case htail =>
                intro g u hst hne
                have b_w5 : AnyLater wr (later u) := ⟨u, rfl⟩
                generalize later u = w5 at *
                clear u
                clear hst hne
                simp only [fillAll, Act.put, List.setIfInBounds_toArray, List.set_cons_zero, List.set_cons_succ, List.drop_succ_cons, List.drop_zero]
                have z_w5 := b_w5.below.size
                have a_w5 := a_wr.trans b_w5
                all_goals
                  go_wp2_with fail
                  go_roundg (12 - (y + 1))
                  case measure => omega
                  case rel => exact ⟨y + 1, rfl, by omega, by go_num, HA.out.trans b_w5⟩
          · obtain rfl : y = 12 := by omega
            go_wp2_with fail
            refine (CV.out _).mono ?_
            rintro e w8 ⟨rfl, b_w8⟩
            go_wp2_with fail
            go_ret
            exact ⟨rfl, HA4.out.trans (HA.out.trans b_w8)⟩
end
end Go.Proofs.Ytmhgpgaikcimnaa
