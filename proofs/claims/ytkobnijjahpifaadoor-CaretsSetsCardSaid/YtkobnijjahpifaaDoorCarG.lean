/- carets, the library's stable sort: symMerge where the right part holds one caret, by contract. -/
import Derived.Test.YtkobnijjahpifaaDoorCarE
namespace Go.Proofs.YtkobnijjahpifaaDoor
set_option linter.unusedSimpArgs false
set_option linter.unusedVariables false
set_option linter.unusedSectionVars false
open Go.RowKit

set_option maxRecDepth 100000 in
set_option maxHeartbeats 6400000 in
/-- the right part holds one caret, the left one more than one -/
theorem symR_any (g cap N : Nat) (P A S L L' : Qs) (y : Ca) (W w : World) (az mz bz : Int) (hW : AnyLater W w) (hWg : W.heap.size ≤ g) (hr : RowC w g cap L) (hL : L = P ++ (A ++ ([y] ++ S))) (hL' : L' = P ++ (sortC (A ++ [y]) ++ S)) (hA : SortedC A) (hA0 : 1 < A.length) (hN : L.length = N) (ha : az = (P.length : Int)) (hm : mz = (P.length : Int) + A.length) (hb : bz = (P.length : Int) + A.length + 1) (hNN : N ≤ 100000) (hNc : N ≤ cap) :
    Calls Tryd.prog 65 #[.slice (some ⟨g, 0, none⟩) N cap, .int .i64 az, .int .i64 mz, .int .i64 bz, .func (.func 36) #[] #[]] w (Wrote W g cap L') := by
  subst hL
  obtain ⟨p, hp⟩ : ∃ p, P.length = p := ⟨_, rfl⟩
  obtain ⟨n, hn⟩ : ∃ n, A.length = n := ⟨_, rfl⟩
  have hl : p + (n + (1 + S.length)) = N := by rw [← hN]; simp only [List.length_append, hp, hn, List.length_singleton]
  have HI := Lib.hid (And.intro hp hn)
  have HS := Lib.hid (And.intro hW (And.intro hr hL'))
  have HB := Lib.hid hA
  rw [hp] at ha hm hb
  rw [hn] at hm hb hA0
  obtain ⟨m, hmn⟩ : ∃ m, p + n = m := ⟨_, rfl⟩
  obtain rfl : mz = (m : Int) := by omega
  obtain rfl : bz = (m : Int) + 1 := by omega
  subst ha
  have hl2 : m + 1 ≤ N := by omega
  have HL := Lib.hid hl
  have HM := Lib.hid hmn
  have gy : (P ++ (A ++ ([y] ++ S)))[m]? = some y := by
    rw [List.getElem?_append_right (by omega), hp, List.getElem?_append_right (by omega), hn, show m - p - n = 0 by omega]; rfl
  have gA : ∀ (t : Nat) (h : t < A.length), (P ++ (A ++ ([y] ++ S)))[p + t]? = some A[t] := fun t h => by
    rw [List.getElem?_append_right (by omega), hp, show p + t - p = t by omega, List.getElem?_append_left h, List.getElem?_eq_getElem h]
  have HG := Lib.hid (And.intro gy gA)
  have e1 : (m : Int) - (p : Int) = (n : Int) := by omega
  have d1 : ((n : Int) == 1) = false := by simp; omega
  have d1' : (n == 1) = false := by simp; omega
  have e2 : (m : Int) + 1 - (m : Int) = 1 := by omega
  have hpm := Lib.hid (show p + 1 < m by omega)
  clear hW hr hN hp hn hL' hl hA gy gA hmn hA0 hm hb
  obtain ⟨y1, y2⟩ := y
  have eg : ∀ args w, (callFunc 36 args).run Tryd.prog w = .ok (.enter 36 args) w := enters_of Tryd.func36 (by kernel_rfl) rfl
  go_enter Tryd.func65, Tryd.ntmps65
  go_wp2_with fail
  go_loopg [14, 15] n (fun kk iv jv wr => ∃ (i j q t : Nat), kk = t - q ∧ q ≤ t ∧ t ≤ n ∧ i = p + q ∧ j = p + t ∧ iv = .int .i64 (i : Int) ∧ jv = .int .i64 (j : Int) ∧ AnyLater W wr ∧ RowC wr g cap (P ++ (A ++ ([(y1, y2)] ++ S))) ∧ (∀ (h : 0 < q) (k : q - 1 < A.length), leC A[q - 1] (y1, y2) = true) ∧ (∀ h : t < A.length, leC A[t] (y1, y2) = false))
  case atStart =>
    exact ⟨p, m, 0, n, rfl, by omega, by omega, rfl, HM.out.symm, by go_num, by go_num, HS.out.1, HS.out.2.1, fun h => by omega, fun h => by have := HI.out.2; omega⟩
  case round =>
    obtain ⟨i, j, q, t, hk, hqt, htn, hi, hj, rfl, rfl, aW, hr, h1, h2⟩ := hrel
    have HR := Lib.hid (And.intro aW (And.intro hr (And.intro h1 h2)))
    have HIJ := Lib.hid (And.intro hi hj)
    clear h1 h2
    by_cases hlt : q < t
    · have i0 : (i : Int) < (j : Int) := by omega
      obtain ⟨h, hh⟩ : ∃ h, (i + j) / 2 = h := ⟨_, rfl⟩
      have hhi : i ≤ h ∧ h < j := by omega
      obtain ⟨u, hu⟩ : ∃ u, h = p + u := ⟨h - p, by omega⟩
      have hul : u < A.length := by have := HI.out.2; omega
      have hut : q ≤ u ∧ u < t := by omega
      have HU := Lib.hid hu
      have hg := HG.out.2 u hul
      rw [← hu] at hg
      obtain ⟨x, hx⟩ : ∃ x, A[u] = x := ⟨_, rfl⟩
      rw [hx] at hg
      obtain ⟨x1, x2⟩ := x
      have HX := Lib.hid hx
      obtain ⟨c0, c1⟩ := hr.cells HG.out.1
      obtain ⟨d0, d1⟩ := hr.cells hg
      have a_wr := aW
      obtain ⟨c, hc⟩ : ∃ c, cmpC (y1, y2) (x1, x2) = c := ⟨_, rfl⟩
      have HC := Lib.hid (fun w => byEnds_any y1 y2 x1 x2 w c hc)
      have HCc : Hid (c < 0 ↔ leC (x1, x2) (y1, y2) = false) := Lib.hid (by rw [← hc]; exact cmpC_lt _ _)
      have i3 : (h : Int) < (N : Int) := by have := HM.out; omega
      have i4 : (m : Int) < (N : Int) := by omega
      simp only at c0 c1 d0 d1
      clear hr aW hg hc hx hu hi hj
      by_cases hlv : c < 0
      · have hgt := Lib.hid (HCc.out.1 hlv)
        go_wp2_with fail
        apply wp_region_free (12) [⟨9, 101, .int .i64 c, false, fun v _ => v = .int .i64 c⟩] [] rfl (by kernel_rfl) (by kernel_rfl) (by kernel_rfl) (by simp) (by kernel_rfl)
        case hstab =>
          intro c hc
          simp only [List.mem_cons, List.not_mem_nil, or_false] at hc
          rcases hc with rfl
          · intro v x y hxy hv; exact hv
        case hfix =>
          intro c hc
          simp only [List.mem_cons, List.not_mem_nil, or_false] at hc
          rcases hc with rfl
          · exact .inr fun u x h => h
        case hlex =>
          intro U hU
          have q_c0 := cell_on hU c0
          have q_c1 := cell_on hU c1
          have q_d0 := cell_on hU d0
          have q_d1 := cell_on hU d1
          simp only [List.map_cons, List.map_nil, CA.act, actFrom, actOp, List.lookup, Nat.reduceBEq, Nat.reduceLeDiff, Nat.reduceAdd, if_false, if_true]
          repeat (go_big_quiet_step (first | fail))
          exact wpQuiet_nil rfl
        case hstep =>
          intro j hj o ho
          have hj2 : j = 0 := by simp at hj; omega
          rcases hj2 with rfl
          · cases ho
            refine ⟨rfl, fun g x hx hp => ?_⟩
            clear hp
            simp only [fillAll, Act.put, List.setIfInBounds_toArray, List.set_cons_zero, List.set_cons_succ]
            refine chain_go ?_ (free_fix (HC.out x))
            first | (simp [go_sem, execOp]; done) | simp [go_sem, execOp, hcf]
        case htail =>
          intro g u hst hne
          have b_w2 : AnyLater wr (later u) := ⟨u, rfl⟩
          generalize later u = w2 at *
          clear u
          clear hst hne
          simp only [fillAll, Act.put, List.setIfInBounds_toArray, List.set_cons_zero, List.set_cons_succ, List.drop_succ_cons, List.drop_zero, List.drop_nil]
          have z_w2 := b_w2.below.size
          have a_w2 := a_wr.trans b_w2
          have c0_w2 := cell_on b_w2 c0
          have c1_w2 := cell_on b_w2 c1
          have d0_w2 := cell_on b_w2 d0
          have d1_w2 := cell_on b_w2 d1
          go_wp2_with fail
          go_roundg (u - q)
          case measure => omega
          case rel => exact ⟨i, h, q, u, rfl, by omega, by omega, HIJ.out.1, HU.out, rfl, by go_num, a_w2, HR.out.2.1.later b_w2, HR.out.2.2.1, fun _ => by rw [HX.out]; exact hgt.out⟩
      · have hgt : Hid (leC (x1, x2) (y1, y2) = true) := Lib.hid (by
          cases h : leC (x1, x2) (y1, y2) with
          | true => rfl
          | false => exact absurd (HCc.out.2 h) hlv)
        have d2 : decide (c < 0) = false := decide_eq_false hlv
        go_wp2_with fail
        apply wp_region_free (12) [⟨9, 101, .int .i64 c, false, fun v _ => v = .int .i64 c⟩] [] rfl (by kernel_rfl) (by kernel_rfl) (by kernel_rfl) (by simp) (by kernel_rfl)
        case hstab =>
          intro c hc
          simp only [List.mem_cons, List.not_mem_nil, or_false] at hc
          rcases hc with rfl
          · intro v x y hxy hv; exact hv
        case hfix =>
          intro c hc
          simp only [List.mem_cons, List.not_mem_nil, or_false] at hc
          rcases hc with rfl
          · exact .inr fun u x h => h
        case hlex =>
          intro U hU
          have q_c0 := cell_on hU c0
          have q_c1 := cell_on hU c1
          have q_d0 := cell_on hU d0
          have q_d1 := cell_on hU d1
          simp only [List.map_cons, List.map_nil, CA.act, actFrom, actOp, List.lookup, Nat.reduceBEq, Nat.reduceLeDiff, Nat.reduceAdd, if_false, if_true]
          repeat (go_big_quiet_step (first | fail))
          exact wpQuiet_nil rfl
        case hstep =>
          intro j hj o ho
          have hj2 : j = 0 := by simp at hj; omega
          rcases hj2 with rfl
          · cases ho
            refine ⟨rfl, fun g x hx hp => ?_⟩
            clear hp
            simp only [fillAll, Act.put, List.setIfInBounds_toArray, List.set_cons_zero, List.set_cons_succ]
            refine chain_go ?_ (free_fix (HC.out x))
            first | (simp [go_sem, execOp]; done) | simp [go_sem, execOp, hcf]
        case htail =>
          intro g u hst hne
          have b_w2 : AnyLater wr (later u) := ⟨u, rfl⟩
          generalize later u = w2 at *
          clear u
          clear hst hne
          simp only [fillAll, Act.put, List.setIfInBounds_toArray, List.set_cons_zero, List.set_cons_succ, List.drop_succ_cons, List.drop_zero, List.drop_nil]
          have z_w2 := b_w2.below.size
          have a_w2 := a_wr.trans b_w2
          have c0_w2 := cell_on b_w2 c0
          have c1_w2 := cell_on b_w2 c1
          have d0_w2 := cell_on b_w2 d0
          have d1_w2 := cell_on b_w2 d1
          go_wp2_with fail
          go_roundg (t - (u + 1))
          case measure => omega
          case rel => exact ⟨h + 1, j, u + 1, t, rfl, by omega, htn, by have := HU.out; omega, HIJ.out.2, by go_num, rfl, a_w2, HR.out.2.1.later b_w2, (fun _ k => by simp only [Nat.add_sub_cancel]; rw [HX.out]; exact hgt.out), HR.out.2.2.2⟩
    · obtain rfl : q = t := by omega
      have HE : Hid (L' = P ++ (A.take q ++ ((y1, y2) :: (A.drop q ++ S)))) := Lib.hid (by
        rw [HS.out.2.2, ← one_right HB.out (y1, y2) (q := q) (by rw [HI.out.2]; exact htn) (fun h => HR.out.2.2.1 h (by have := HI.out.2; omega)) HR.out.2.2.2]
        simp only [List.append_assoc, List.cons_append])
      obtain rfl : j = i := by omega
      have HIp := Lib.hid hi
      have HQn := Lib.hid htn
      clear hr aW hi hj HIJ hk hqt htn
      go_wp2_with fail
      go_loopg [17] (n - q) (fun kk kv wr => ∃ (k r : Nat), kk = r - q ∧ q ≤ r ∧ r ≤ n ∧ k = p + r ∧ kv = .int .i64 (k : Int) ∧ AnyLater W wr ∧ RowC wr g cap (P ++ (A.take r ++ ((y1, y2) :: (A.drop r ++ S)))))
      case atStart =>
        refine ⟨m, n, ?_, HQn.out, Nat.le_refl _, HM.out.symm, rfl, HR.out.1, ?_⟩
        · rfl
        · rw [List.take_of_length_le (Nat.le_of_eq HI.out.2), List.drop_of_length_le (Nat.le_of_eq HI.out.2)]
          exact HR.out.2.1
      case round =>
        obtain ⟨k, r, hkk, hqr, hrn, hkp, rfl, aW, hr⟩ := hrel
        have HR2 := Lib.hid (And.intro aW hr)
        have HK := Lib.hid hkp
        by_cases hlt2 : q < r
        · obtain ⟨s, rfl⟩ : ∃ s, r = s + 1 := ⟨r - 1, by omega⟩
          obtain ⟨kp, rfl⟩ : ∃ kp, k = kp + 1 := ⟨k - 1, by omega⟩
          have sA : s < A.length := by have := HI.out.2; omega
          have i0 : (j : Int) < (kp : Int) + 1 := by have := HIp.out; omega
          obtain ⟨x, hx⟩ : ∃ x, A[s] = x := ⟨_, rfl⟩
          obtain ⟨x1, x2⟩ := x
          have eL : P ++ (A.take (s + 1) ++ ((y1, y2) :: (A.drop (s + 1) ++ S))) = (P ++ A.take s) ++ (x1, x2) :: ([] ++ (y1, y2) :: (A.drop (s + 1) ++ S)) := by
            rw [List.take_succ_eq_append_getElem sA, hx]; simp only [List.append_assoc, List.cons_append, List.nil_append]
          have eL2 : P ++ (A.take s ++ ((y1, y2) :: (A.drop s ++ S))) = (P ++ A.take s) ++ (y1, y2) :: ([] ++ (x1, x2) :: (A.drop (s + 1) ++ S)) := by
            rw [List.drop_eq_getElem_cons sA, hx]; simp only [List.append_assoc, List.cons_append, List.nil_append]
          have hUl : (P ++ A.take s).length = kp := by rw [List.length_append, List.length_take, HI.out.1]; omega
          have hLl : ((P ++ A.take s) ++ (x1, x2) :: ([] ++ (y1, y2) :: (A.drop (s + 1) ++ S))).length = N := by
            simp only [List.length_append, List.length_cons, List.length_nil, List.length_take, List.length_drop, HI.out.1, HI.out.2]
            have := HL.out
            have := HI.out.2
            omega
          have klt : kp + 1 < N := by have := HL.out; omega
          rw [eL] at hr
          obtain ⟨s1, s2, -⟩ := swap_mid (P ++ A.take s) [] (A.drop (s + 1) ++ S) (x1, x2) (y1, y2) kp (kp + 1) hUl (by rw [hUl]; rfl)
          have s3 := swap_mid2 (P ++ A.take s) [] (A.drop (s + 1) ++ S) (x1, x2) (y1, y2) kp (kp + 1) hUl (by rw [hUl]; rfl)
          have hP := fun (w2 : World) (h : RowC w2 g cap ((P ++ A.take s) ++ (x1, x2) :: ([] ++ (y1, y2) :: (A.drop (s + 1) ++ S)))) => h.swap (i := kp + 1) (j := kp) (y1, y2) (x1, x2) (by rw [hLl]; omega) (by rw [hLl]; omega)
          rw [s3, ← eL2] at hP
          have HP := Lib.hid hP
          have HRr := Lib.hid hr
          obtain ⟨d0, d1⟩ := hr.cells s1
          obtain ⟨c0, c1⟩ := hr.cells s2
          have f0 := hr.free
          have l0 := hr.lt
          have n0 : kp * 2 ≠ (kp + 1) * 2 := by omega
          have n1 : kp * 2 ≠ (kp + 1) * 2 + 1 := by omega
          have n2 : kp * 2 + 1 ≠ (kp + 1) * 2 := by omega
          have n3 : kp * 2 + 1 ≠ (kp + 1) * 2 + 1 := by omega
          have i1 : (kp : Int) + 1 < (N : Int) := by omega
          have i2 : (kp : Int) < (N : Int) := by omega
          have hwp : IntKind.i64.wrap (kp : Int) = (kp : Int) := by rw [IntKind.wrap_i64]; omega
          have e0 : ((kp : Int) + 1).toNat = kp + 1 := by omega
          simp only at c0 c1 d0 d1
          clear hr aW s1 s2 s3 hP eL eL2 hUl hLl hx hkp
          go_wp2_with fail
          go_big_region
          go_wp2_with fail
          go_roundg (s - q)
          case measure => omega
          case rel => exact ⟨kp, s, rfl, by omega, by omega, by have := HK.out; omega, by go_num, ((HR2.out.1.put hWg _ _ _ _).put hWg _ _ _ _).drew, RowC.later (AnyLater.refl _).drew (HP.out _ HRr.out)⟩
        · obtain rfl : r = q := by omega
          have d3 : decide ((j : Int) < (k : Int)) = false := decide_eq_false (by have := HIp.out; omega)
          have d4 : decide (j < k) = false := decide_eq_false (by have := HIp.out; omega)
          clear hr aW hkp
          go_wp2_with fail
          refine bodyPost_ret (v := .tuple #[]) (by simp [results, Tryd.results65, go_sem]) rfl ⟨rfl, HR2.out.1, by rw [HE.out]; exact HR2.out.2⟩
end Go.Proofs.YtkobnijjahpifaaDoor
