/- text: TextLines, walked. -/
import Derived.Test.YtdhgombgbjldgaaTxtD
import Derived.Test.YtdhgombgbjldgaaTxtQ
import Derived.Test.YtdhgombgbjldgaaWild
import Derived.Deep.QuietTactic
namespace Go.Proofs.Ytdhgombgbjldgaa
set_option linter.unusedSimpArgs false
set_option linter.unusedVariables false
set_option linter.unusedSectionVars false
open Go.RowKit

set_option maxRecDepth 100000 in
set_option maxHeartbeats 6400000 in
theorem textLines_any (w : World) (v lv : Value) (b : List Int) (l : List AM) (k : Int) (hb : RN .u8 w v b) (hby : Bytes b) (hv : RAct w lv l) (r1 : I64r k) :
    Calls Try.prog 5 #[v, lv, .int .i64 k] w fun e w' => e = .returned (.bool true) ∧ AnyLater w w' := by
  have HMd := Lib.hid (tmade_any w v lv b l hb hby hv)
  obtain ⟨Ab, capb, rfl, -⟩ := hb.form
  obtain ⟨Av, capv, rfl, -, -⟩ := hv
  have HV := Lib.hid tlives
  obtain ⟨kl, kh⟩ := r1
  clear hb hby
  generalize b.length = nb at *
  generalize l.length = nl at *
  go_enter Try.func5, Try.ntmps5
  go_wp2_with fail
  refine HMd.out.mono ?_
  rintro e w2 ⟨tg, g, xb, rfl, b_w2, t, L, h2, ok, hbs, hxb, hby, hlen⟩
  obtain ⟨Ax, capx, ex, -⟩ := RT.form hxb
  have htl : t.len = L.length := by rw [← Tr.len_bs, hbs]
  have hfd : fds t = feN 0 L := by unfold fds; rw [hbs]
  have htf : t.nf = (feN 0 L).length := by rw [← hfd, fds_len]
  have hF := feedsOk L
  have hnn := hF.nn
  have HF := Lib.hid hF
  have H02 := Lib.hid b_w2
  have HLn := Lib.hid (xlines_any xb L _ w2 rfl hxb.rn (by omega))
  have HLs : Hid (∀ w', AnyLater w2 w' → Calls Try.prog 23 #[.pointer (some ⟨tg, 0, none⟩)] w' fun e w'' => e = .returned (.int .i64 (((feN 0 L).length : Int) + 1)) ∧ AnyLater w' w'') := Lib.hid (fun w' a => by
    have := tlines_some tg g 2000 t w' (h2.later a) ok.nf
    rwa [htf, Int.natCast_add] at this)
  have HLe : Hid (∀ w', AnyLater w2 w' → Calls Try.prog 24 #[.pointer (some ⟨tg, 0, none⟩)] w' fun e w'' => e = .returned (.int .i64 (L.length : Int)) ∧ AnyLater w' w'') := Lib.hid (fun w' a => by
    have := tlen_any _ t _ w' (h2.later a).tl
    rwa [htl] at this)
  have HAll : Hid (∀ w', AnyLater w2 w' → Calls Try.prog 25 #[.pointer (some ⟨tg, 0, none⟩)] w' (Ans (isB L) w')) := Lib.hid (fun w' a => by
    have := tall_any _ t _ w' (h2.later a).tl ok
    rwa [hbs] at this)
  have HSt : Hid (∀ w' (j : Nat), AnyLater w2 w' → j ≤ (feN 0 L).length → Calls Try.prog 26 #[.pointer (some ⟨tg, 0, none⟩), .int .i64 (j : Int)] w' fun e w'' => e = .returned (.tuple #[.int .i64 (lnS (feN 0 L) j), .bool true]) ∧ AnyLater w' w'') := Lib.hid (fun w' j a q => tstart_yes tg g 2000 t j _ w' (h2.later a) ok (by omega) (by rw [hfd]))
  have HEd : Hid (∀ w' (j : Nat), AnyLater w2 w' → j ≤ (feN 0 L).length → Calls Try.prog 27 #[.pointer (some ⟨tg, 0, none⟩), .int .i64 (j : Int)] w' fun e w'' => e = .returned (.tuple #[.int .i64 (lnE (feN 0 L) L.length j), .bool true]) ∧ AnyLater w' w'') := Lib.hid (fun w' j a q => tend_yes tg g 2000 t j _ w' (h2.later a) ok (by omega) (by rw [hfd, htl]))
  have HLi : Hid (∀ w' (j : Nat), AnyLater w2 w' → j ≤ (feN 0 L).length → Calls Try.prog 28 #[.pointer (some ⟨tg, 0, none⟩), .int .i64 (j : Int)] w' (Ans (isB (cutZ L (lnS (feN 0 L) j) (lnE (feN 0 L) L.length j))) w')) := Lib.hid (fun w' j a q => tline_yes tg g 2000 t j _ w' (h2.later a) ok (by omega) (by rw [hfd, htl, hbs]))
  have HStn := Lib.hid (fun (w' : World) (a : AnyLater w2 w') (q : ¬ (0 ≤ k ∧ k < ((feN 0 L).length + 1 : Nat))) => tstart_no _ t (t.nf + 1) k w' (h2.later a).tl ok (by rw [htf]; exact q))
  have HEdn := Lib.hid (fun (w' : World) (a : AnyLater w2 w') (q : ¬ (0 ≤ k ∧ k < ((feN 0 L).length + 1 : Nat))) => tend_no _ t (t.nf + 1) k w' (h2.later a).tl ok (by rw [htf]; exact q))
  have HLin := Lib.hid (fun (w' : World) (a : AnyLater w2 w') (q : ¬ (0 ≤ k ∧ k < ((feN 0 L).length + 1 : Nat))) => tline_no _ t (t.nf + 1) k w' (h2.later a).tl ok (by rw [htf]; exact q))
  have HXb := Lib.hid hxb.rn
  obtain ⟨S, hS⟩ : ∃ S, strOfNums L = S := ⟨_, rfl⟩
  have HS := Lib.hid hS
  subst ex
  clear hxb h2 ok hby hbs hF hfd htl htf hS b_w2
  generalize hFF : feN 0 L = F at *
  clear hFF
  generalize hnL : L.length = n at *
  have HNL := Lib.hid hnL
  clear hnL
  generalize hnF : F.length = nF at *
  have HNF := Lib.hid hnF
  clear hnF
  have HXS : Hid (∀ x, AnyLater w2 x → (convert 28 9 (.slice Ax n capx)).run Try.prog x = .ok (.string S) x) := Lib.hid (fun x a => by rw [← HS.out]; exact RN.str (HXb.out.later a))
  go_wp2_with fail
  refine HLn.out.mono ?_
  rintro e w4 ⟨u4, rfl, b_w4, o4⟩
  obtain ⟨A4, cap4, rfl, hcap4, hc4⟩ := o4.reads.at
  have HC4 := Lib.hid hc4
  have H24 := Lib.hid b_w4
  rw [HNF.out] at hcap4 HC4 ⊢
  have a_w4 := H02.out.trans b_w4
  clear hc4 o4 b_w4
  go_wp2_with fail
  apply Wild.wp_region_free (20) [⟨1, 32, .int .i64 ((nF : Int) + 1), false, fun v _ => v = .int .i64 ((nF : Int) + 1)⟩, ⟨7, 38, .int .i64 (n : Int), false, fun v _ => v = .int .i64 (n : Int)⟩, ⟨14, 45, undef, true, isB L⟩, ⟨15, 46, .string S, false, fun v _ => v = .string S⟩, ⟨17, 48, .string S, false, fun v _ => v = .string S⟩] [⟨14, 45, isB L⟩] rfl (by kernel_rfl) (by kernel_rfl) (by kernel_rfl) (by simp) (by kernel_rfl)
  case hstab =>
    intro c hc
    simp only [List.mem_cons, List.not_mem_nil, or_false] at hc
    rcases hc with rfl | rfl | rfl | rfl | rfl
    · intro v x y hxy hv; exact hv
    · intro v x y hxy hv; exact hv
    · intro v x y hxy hv; exact isB_stays hxy hv
    · intro v x y hxy hv; exact hv
    · intro v x y hxy hv; exact hv
  case hfix =>
    intro c hc
    simp only [List.mem_cons, List.not_mem_nil, or_false] at hc
    rcases hc with rfl | rfl | rfl | rfl | rfl
    · exact .inr fun u x h => h
    · exact .inr fun u x h => h
    · exact .inl rfl
    · exact .inr fun u x h => h
    · exact .inr fun u x h => h
  case hlex =>
    intro U hU
    simp only [List.map_cons, List.map_nil, CA.act, actFrom, actOp, List.lookup, Nat.reduceBEq, Nat.reduceLeDiff, Nat.reduceAdd, if_false, if_true]
    repeat (go_big_quiet_step (fail))
    exact wpQuiet_nil rfl
  case hstep =>
    intro j hj o ho
    have hj2 : j = 0 ∨ j = 1 ∨ j = 2 ∨ j = 3 ∨ j = 4 := by simp at hj; omega
    rcases hj2 with rfl | rfl | rfl | rfl | rfl
    · cases ho
      refine ⟨rfl, fun g x hx hp => ?_⟩
      clear hp
      simp only [fillAll, Act.put, List.setIfInBounds_toArray, List.set_cons_zero, List.set_cons_succ]
      refine chain_go ?_ (Wild.free_fix (HLs.out x (H24.out.trans hx)))
      simp [go_sem, execOp]
    · cases ho
      refine ⟨rfl, fun g x hx hp => ?_⟩
      clear hp
      simp only [fillAll, Act.put, List.setIfInBounds_toArray, List.set_cons_zero, List.set_cons_succ]
      refine chain_go ?_ (Wild.free_fix (HLe.out x (H24.out.trans hx)))
      simp [go_sem, execOp]
    · cases ho
      refine ⟨rfl, fun g x hx hp => ?_⟩
      clear hp
      simp only [fillAll, Act.put, List.setIfInBounds_toArray, List.set_cons_zero, List.set_cons_succ]
      refine chain_go ?_ (Wild.free_tells (HAll.out x (H24.out.trans hx)))
      simp [go_sem, execOp]
    · cases ho
      refine ⟨rfl, fun g x hx hp => ?_⟩
      have p45 : (isB L) (g 14) x := hp _ (List.mem_of_getElem? (i := 0) rfl) (List.contains_iff_mem.1 (by kernel_rfl))
      clear hp
      simp only [fillAll, Act.put, List.setIfInBounds_toArray, List.set_cons_zero, List.set_cons_succ]
      (have hr := RN.str (RT.rn p45); rw [HS.out] at hr; refine Wild.free_op ?_; simp [go_sem, execOp, hr])
    · cases ho
      refine ⟨rfl, fun g x hx hp => ?_⟩
      clear hp
      simp only [fillAll, Act.put, List.setIfInBounds_toArray, List.set_cons_zero, List.set_cons_succ]
      (have hr := HXS.out x (H24.out.trans hx); refine Wild.free_op ?_; simp [go_sem, execOp, hr])
  case htail =>
    intro g u hst hne
    have b_w5 : AnyLater w4 (later u) := ⟨u, rfl⟩
    generalize later u = w5 at *
    clear u hne
    obtain ⟨p45_w5, -⟩ := hst _ (List.mem_of_getElem? (i := 0) rfl)
    (try dsimp only at p45_w5)
    clear hst
    simp only [fillAll, Act.put, List.setIfInBounds_toArray, List.set_cons_zero, List.set_cons_succ, List.drop_succ_cons, List.drop_zero, List.drop_nil]
    generalize g 14 = v45 at *
    have z_w5 := b_w5.below.size
    have a_w5 := a_w4.trans b_w5
    go_wp2_with fail
    have H25 := Lib.hid (H24.out.trans b_w5)
    have H05 := Lib.hid a_w5
    have HC5 : Hid (∀ x, AnyLater w5 x → ∀ j, j ≤ nF → ∃ b off, A4 = some ⟨b, off, none⟩ ∧ x.cell? ⟨b, off + j * 2, none⟩ = some (.int .i64 (lnS F j)) ∧ x.cell? ⟨b, off + j * 2 + 1, none⟩ = some (.int .i64 (lnE F n j))) := Lib.hid (fun x a j hj => by
      obtain ⟨b, off, e, -, q1, q2⟩ := HC4.out j hj
      exact ⟨b, off, e, cell_on (b_w5.trans a) q1, cell_on (b_w5.trans a) q2⟩)
    clear a_w4 a_w5 b_w5 p45_w5
    go_loopg [11] (nF + 1) (fun kk iv wr => ∃ (i : Nat), kk = nF + 1 - i ∧ i ≤ nF + 1 ∧ iv = .int .i64 (i : Int) ∧ AnyLater w5 wr)
    case atStart => exact ⟨0, rfl, Nat.zero_le _, rfl, AnyLater.refl _⟩
    case round =>
      obtain ⟨i, hkk, hi, rfl, a_wr⟩ := hrel
      have HAr := Lib.hid a_wr
      by_cases hlt : i ≤ nF
      · obtain ⟨b8, off8, rfl, c8, c9⟩ := HC5.out wr a_wr i hlt
        have hiF : i ≤ F.length := by rw [HNF.out]; exact hlt
        have q1 := HF.out.s0 hiF
        have q2 := HF.out.se hiF
        have q3 := HF.out.en hiF
        obtain ⟨lo, hlo⟩ := Int.eq_ofNat_of_zero_le q1
        obtain ⟨hi2, hhi⟩ := Int.eq_ofNat_of_zero_le (Int.le_trans q1 q2)
        have HSi := Lib.hid (HSt.out wr i (H25.out.trans a_wr) hlt)
        have HEi := Lib.hid (fun x (a : AnyLater wr x) => HEd.out x i (H25.out.trans (HAr.out.trans a)) hlt)
        have HLii := Lib.hid (fun x (a : AnyLater wr x) => HLi.out x i (H25.out.trans (HAr.out.trans a)) hlt)
        rw [hlo, hhi] at q2
        rw [hhi] at q3
        rw [hlo, hhi] at HLii
        rw [hlo] at HSi c8
        rw [hhi] at HEi c9
        have hcut : cutZ L (lo : Int) (hi2 : Int) = (L.drop lo).take (hi2 - lo) := by
          unfold cutZ
          rw [Int.toNat_natCast, Int.toNat_natCast, List.drop_take]
        rw [hcut] at HLii
        obtain ⟨Ap, cp, hpr, hps⟩ := RN.part HXb.out lo hi2 (by omega) (by rw [HNL.out]; omega)
        generalize (L.drop lo).take (hi2 - lo) = P at *
        obtain ⟨Sp, hSp⟩ : ∃ S, strOfNums P = S := ⟨_, rfl⟩
        have HSp := Lib.hid hSp
        have HPS : Hid (∀ x, AnyLater w2 x → (convert 28 9 (.slice Ap (hi2 - lo) cp)).run Try.prog x = .ok (.string Sp) x) := Lib.hid (fun x a => by rw [← HSp.out]; exact RN.str (hpr.later a))
        have d0 : (i : Int) < ((nF + 1 : Nat) : Int) := by omega
        have d1 : i < nF + 1 := by omega
        have c8_wr := c8
        have c9_wr := c9
        clear hi hiF q1 hlo hhi hcut hpr hSp a_wr c8 c9
        generalize hi2 - lo = np at *
        go_wp2_with fail
        refine HSi.out.mono ?_
        rintro e w6 ⟨rfl, b_w6⟩
        have H6 := Lib.hid b_w6
        go_wp2_with fail
        refine (HEi.out _ H6.out).mono ?_
        rintro e w7 ⟨rfl, b_w7⟩
        have H7 := Lib.hid (H6.out.trans b_w7)
        have c8 := cell_on H7.out c8_wr
        have c9 := cell_on H7.out c9_wr
        have a_w7 := H05.out.trans (HAr.out.trans H7.out)
        clear b_w6 b_w7 c8_wr c9_wr
        go_wp2_with fail
        apply Wild.wp_region_free (36) [⟨27, 96, undef, true, isB P⟩, ⟨28, 97, .string Sp, false, fun v _ => v = .string Sp⟩, ⟨33, 102, .string Sp, false, fun v _ => v = .string Sp⟩] [⟨27, 96, isB P⟩] rfl (by kernel_rfl) (by kernel_rfl) (by kernel_rfl) (by simp) (by kernel_rfl)
        case hstab =>
          intro c hc
          simp only [List.mem_cons, List.not_mem_nil, or_false] at hc
          rcases hc with rfl | rfl | rfl
          · intro v x y hxy hv; exact isB_stays hxy hv
          · intro v x y hxy hv; exact hv
          · intro v x y hxy hv; exact hv
        case hfix =>
          intro c hc
          simp only [List.mem_cons, List.not_mem_nil, or_false] at hc
          rcases hc with rfl | rfl | rfl
          · exact .inl rfl
          · exact .inr fun u x h => h
          · exact .inr fun u x h => h
        case hlex =>
          intro U hU
          have q_c8 := cell_on hU c8
          have q_c9 := cell_on hU c9
          simp only [List.map_cons, List.map_nil, CA.act, actFrom, actOp, List.lookup, Nat.reduceBEq, Nat.reduceLeDiff, Nat.reduceAdd, if_false, if_true]
          repeat (go_big_quiet_step (fail))
          exact wpQuiet_nil rfl
        case hstep =>
          intro j hj o ho
          have hj2 : j = 0 ∨ j = 1 ∨ j = 2 := by simp at hj; omega
          rcases hj2 with rfl | rfl | rfl
          · cases ho
            refine ⟨rfl, fun g x hx hp => ?_⟩
            clear hp
            simp only [fillAll, Act.put, List.setIfInBounds_toArray, List.set_cons_zero, List.set_cons_succ]
            refine chain_go ?_ (Wild.free_tells (HLii.out x (H7.out.trans hx)))
            simp [go_sem, execOp]
          · cases ho
            refine ⟨rfl, fun g x hx hp => ?_⟩
            have p96 : (isB P) (g 27) x := hp _ (List.mem_of_getElem? (i := 0) rfl) (List.contains_iff_mem.1 (by kernel_rfl))
            clear hp
            simp only [fillAll, Act.put, List.setIfInBounds_toArray, List.set_cons_zero, List.set_cons_succ]
            (have hr := RN.str (RT.rn p96); rw [HSp.out] at hr; refine Wild.free_op ?_; simp [go_sem, execOp, hr])
          · cases ho
            refine ⟨rfl, fun g x hx hp => ?_⟩
            clear hp
            simp only [fillAll, Act.put, List.setIfInBounds_toArray, List.set_cons_zero, List.set_cons_succ]
            (have hr := HPS.out x (H25.out.trans (HAr.out.trans (H7.out.trans hx))); refine Wild.free_op ?_; simp [go_sem, execOp, hr])
        case htail =>
          intro g u hst hne
          have b_w8 : AnyLater w7 (later u) := ⟨u, rfl⟩
          generalize later u = w8 at *
          clear u hne
          obtain ⟨p96_w8, -⟩ := hst _ (List.mem_of_getElem? (i := 0) rfl)
          (try dsimp only at p96_w8)
          clear hst
          simp only [fillAll, Act.put, List.setIfInBounds_toArray, List.set_cons_zero, List.set_cons_succ, List.drop_succ_cons, List.drop_zero, List.drop_nil]
          generalize g 27 = v96 at *
          have z_w8 := b_w8.below.size
          have a_w8 := a_w7.trans b_w8
          have c8_w8 := cell_on b_w8 c8
          have c9_w8 := cell_on b_w8 c9
          go_wp2_with fail
          go_roundg (nF + 1 - (i + 1))
          case measure => omega
          case rel => exact ⟨i + 1, rfl, by omega, by go_num, HAr.out.trans (H7.out.trans b_w8)⟩
      · obtain rfl : i = nF + 1 := by omega
        have H05r := Lib.hid (H05.out.trans a_wr)
        have H2r := Lib.hid (H25.out.trans a_wr)
        clear a_wr hkk hi hlt
        by_cases hin : 0 ≤ k ∧ k < ((nF + 1 : Nat) : Int)
        · obtain ⟨j, rfl⟩ := Int.eq_ofNat_of_zero_le hin.1
          have d0 : (j : Int) < (nF : Int) + 1 := by omega
          have d1 : j < nF + 1 := by omega
          have d2 : (j : Int) < ((nF + 1 : Nat) : Int) := by omega
          clear hin
          go_wp2_with fail
          refine (HV.out _).mono ?_
          rintro e w6 ⟨rfl, b_w6⟩
          have H6 := Lib.hid (H05r.out.trans b_w6)
          clear b_w6
          go_wp2_with fail
          go_ret
          exact ⟨rfl, H6.out⟩
        · have HS0 := Lib.hid (HStn.out wr H2r.out hin)
          have HE0 := Lib.hid (fun x (a : AnyLater wr x) => HEdn.out x (H2r.out.trans a) hin)
          have HL0 := Lib.hid (fun x (a : AnyLater wr x) => HLin.out x (H2r.out.trans a) hin)
          by_cases h0 : 0 ≤ k
          case' pos =>
            have d0 : decide (k < (nF : Int) + 1) = false := decide_eq_false (by omega)
            have d1 : decide (k < ((nF + 1 : Nat) : Int)) = false := decide_eq_false (by omega)
            clear hin
            go_wp2_with fail
          case' neg =>
            have d0 : decide (0 ≤ k) = false := decide_eq_false h0
            clear hin h0
            go_wp2_with fail
          all_goals
            refine HS0.out.mono ?_
            rintro e w6 ⟨rfl, b_w6⟩
            have H6 := Lib.hid b_w6
            clear b_w6
            go_wp2_with fail
            refine (HE0.out _ H6.out).mono ?_
            rintro e w7 ⟨rfl, b_w7⟩
            have H7 := Lib.hid (H6.out.trans b_w7)
            clear b_w7
            go_wp2_with fail
            refine (HL0.out _ H7.out).mono ?_
            rintro e w8 ⟨u8, rfl, b_w8, hu8⟩
            have H8 := Lib.hid (H7.out.trans b_w8)
            obtain ⟨A8, cap8, rfl, -⟩ := isB.form hu8
            clear b_w8 hu8
            simp only [List.length_nil]
            go_wp2_with fail
            refine (HV.out _).mono ?_
            rintro e w9 ⟨rfl, b_w9⟩
            have H9 := Lib.hid (H05r.out.trans (H8.out.trans b_w9))
            clear b_w9
            go_wp2_with fail
            go_ret
            exact ⟨rfl, H9.out⟩
end Go.Proofs.Ytdhgombgbjldgaa
