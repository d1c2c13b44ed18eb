/- carets, the library's stable sort: symMerge where one part holds one caret, by contract. -/
import Derived.Test.YtkobnijjahpifaaDoorCarE
namespace Go.Proofs.YtkobnijjahpifaaDoor
set_option linter.unusedSimpArgs false
set_option linter.unusedVariables false
set_option linter.unusedSectionVars false
open Go.RowKit

set_option maxRecDepth 100000 in
set_option maxHeartbeats 6400000 in
/-- the left part holds one caret -/
theorem symL_any (g cap N : Nat) (P B S L L' : Qs) (x : Ca) (W w : World) (az mz bz : Int) (hW : AnyLater W w) (hWg : W.heap.size ≤ g) (hr : RowC w g cap L) (hL : L = P ++ ([x] ++ (B ++ S))) (hL' : L' = P ++ (sortC ([x] ++ B) ++ S)) (hB : SortedC B) (hB0 : 0 < B.length) (hN : L.length = N) (ha : az = (P.length : Int)) (hm : mz = (P.length : Int) + 1) (hb : bz = (P.length : Int) + 1 + B.length) (hNN : N ≤ 100000) (hNc : N ≤ cap) :
    Calls Tryd.prog 65 #[.slice (some ⟨g, 0, none⟩) N cap, .int .i64 az, .int .i64 mz, .int .i64 bz, .func (.func 36) #[] #[]] w (Wrote W g cap L') := by
  subst hL
  obtain ⟨p, hp⟩ : ∃ p, P.length = p := ⟨_, rfl⟩
  obtain ⟨n, hn⟩ : ∃ n, B.length = n := ⟨_, rfl⟩
  have hl : p + (1 + (n + S.length)) = N := by rw [← hN]; simp only [List.length_append, hp, hn, List.length_singleton]
  have HI := Lib.hid (And.intro hp hn)
  have HS := Lib.hid (And.intro hW (And.intro hr hL'))
  have HB := Lib.hid hB
  rw [hp] at ha hm hb
  rw [hn] at hb hB0
  subst ha hm hb
  have hl2 : p + 1 + n ≤ N := by omega
  have HL := Lib.hid hl
  have gx : (P ++ ([x] ++ (B ++ S)))[p]? = some x := by rw [List.getElem?_append_right (by omega), hp, Nat.sub_self]; rfl
  have gB : ∀ (t : Nat) (h : t < B.length), (P ++ ([x] ++ (B ++ S)))[p + 1 + t]? = some B[t] := fun t h => by
    rw [List.getElem?_append_right (by omega), hp, show p + 1 + t - p = t + 1 by omega, List.singleton_append, List.getElem?_cons_succ, List.getElem?_append_left h, List.getElem?_eq_getElem h]
  have HG := Lib.hid (And.intro gx gB)
  clear hW hr hN hp hn hL' hl hB gx gB
  obtain ⟨x1, x2⟩ := x
  have e1 : (p : Int) + 1 - (p : Int) = 1 := by omega
  have eg : ∀ args w, (callFunc 36 args).run Tryd.prog w = .ok (.enter 36 args) w := enters_of Tryd.func36 (by kernel_rfl) rfl
  go_enter Tryd.func65, Tryd.ntmps65
  go_wp2_with fail
  go_loopg [10, 11] n (fun kk iv jv wr => ∃ (i j q t : Nat), kk = t - q ∧ q ≤ t ∧ t ≤ n ∧ i = p + 1 + q ∧ j = p + 1 + t ∧ iv = .int .i64 (i : Int) ∧ jv = .int .i64 (j : Int) ∧ AnyLater W wr ∧ RowC wr g cap (P ++ ([(x1, x2)] ++ (B ++ S))) ∧ (∀ (h : 0 < q) (k : q - 1 < B.length), leC (x1, x2) B[q - 1] = false) ∧ (∀ h : t < B.length, leC (x1, x2) B[t] = true))
  case atStart =>
    exact ⟨p + 1, p + 1 + n, 0, n, rfl, by omega, by omega, rfl, rfl, by go_num, by go_num, HS.out.1, HS.out.2.1, fun h => by omega, fun h => by have := HI.out.2; omega⟩
  case round =>
    obtain ⟨i, j, q, t, hk, hqt, htn, hi, hj, rfl, rfl, aW, hr, h1, h2⟩ := hrel
    have HR := Lib.hid (And.intro aW (And.intro hr (And.intro h1 h2)))
    have HIJ := Lib.hid (And.intro hi hj)
    clear h1 h2
    by_cases hlt : q < t
    · have i0 : (i : Int) < (j : Int) := by omega
      obtain ⟨h, hh⟩ : ∃ h, (i + j) / 2 = h := ⟨_, rfl⟩
      have hhi : i ≤ h ∧ h < j := by omega
      obtain ⟨u, hu⟩ : ∃ u, h = p + 1 + u := ⟨h - (p + 1), by omega⟩
      have hul : u < B.length := by have := HI.out.2; omega
      have hut : q ≤ u ∧ u < t := by omega
      have HU := Lib.hid hu
      have hg := HG.out.2 u hul
      rw [← hu] at hg
      obtain ⟨y, hy⟩ : ∃ y, B[u] = y := ⟨_, rfl⟩
      rw [hy] at hg
      obtain ⟨y1, y2⟩ := y
      have HY := Lib.hid hy
      obtain ⟨c0, c1⟩ := hr.cells HG.out.1
      obtain ⟨d0, d1⟩ := hr.cells hg
      have a_wr := aW
      obtain ⟨c, hc⟩ : ∃ c, cmpC (y1, y2) (x1, x2) = c := ⟨_, rfl⟩
      have HC := Lib.hid (fun w => byEnds_any y1 y2 x1 x2 w c hc)
      have HCc : Hid (c < 0 ↔ leC (x1, x2) (y1, y2) = false) := Lib.hid (by rw [← hc]; exact cmpC_lt _ _)
      have i3 : (h : Int) < (N : Int) := by omega
      have i4 : (p : Int) < (N : Int) := by omega
      simp only at c0 c1 d0 d1
      clear hr aW hg hc hy hu hi hj
      by_cases hlv : c < 0
      · have hgt := Lib.hid (HCc.out.1 hlv)
        go_wp2_with fail
        apply wp_region_free (11) [⟨9, 49, .int .i64 c, false, fun v _ => v = .int .i64 c⟩] [] rfl (by kernel_rfl) (by kernel_rfl) (by kernel_rfl) (by simp) (by kernel_rfl)
        case hstab =>
          intro c hc
          simp only [List.mem_cons, List.not_mem_nil, or_false] at hc
          rcases hc with rfl
          · intro v x y hxy hv; exact hv
        case hfix =>
          intro c hc
          simp only [List.mem_cons, List.not_mem_nil, or_false] at hc
          rcases hc with rfl
          · exact .inr fun u x h => h
        case hlex =>
          intro U hU
          have q_c0 := cell_on hU c0
          have q_c1 := cell_on hU c1
          have q_d0 := cell_on hU d0
          have q_d1 := cell_on hU d1
          simp only [List.map_cons, List.map_nil, CA.act, actFrom, actOp, List.lookup, Nat.reduceBEq, Nat.reduceLeDiff, Nat.reduceAdd, if_false, if_true]
          repeat (go_big_quiet_step (first | fail))
          exact wpQuiet_nil rfl
        case hstep =>
          intro j hj o ho
          have hj2 : j = 0 := by simp at hj; omega
          rcases hj2 with rfl
          · cases ho
            refine ⟨rfl, fun g x hx hp => ?_⟩
            clear hp
            simp only [fillAll, Act.put, List.setIfInBounds_toArray, List.set_cons_zero, List.set_cons_succ]
            refine chain_go ?_ (free_fix (HC.out x))
            first | (simp [go_sem, execOp]; done) | simp [go_sem, execOp, hcf]
        case htail =>
          intro g u hst hne
          have b_w2 : AnyLater wr (later u) := ⟨u, rfl⟩
          generalize later u = w2 at *
          clear u
          clear hst hne
          simp only [fillAll, Act.put, List.setIfInBounds_toArray, List.set_cons_zero, List.set_cons_succ, List.drop_succ_cons, List.drop_zero, List.drop_nil]
          have z_w2 := b_w2.below.size
          have a_w2 := a_wr.trans b_w2
          have c0_w2 := cell_on b_w2 c0
          have c1_w2 := cell_on b_w2 c1
          have d0_w2 := cell_on b_w2 d0
          have d1_w2 := cell_on b_w2 d1
          go_wp2_with fail
          go_roundg (t - (u + 1))
          case measure => omega
          case rel => exact ⟨h + 1, j, u + 1, t, rfl, by omega, htn, by have := HU.out; omega, HIJ.out.2, by go_num, rfl, a_w2, HR.out.2.1.later b_w2, (fun _ k => by simp only [Nat.add_sub_cancel]; rw [HY.out]; exact hgt.out), HR.out.2.2.2⟩
      · have hgt : Hid (leC (x1, x2) (y1, y2) = true) := Lib.hid (by
          cases h : leC (x1, x2) (y1, y2) with
          | true => rfl
          | false => exact absurd (HCc.out.2 h) hlv)
        have d2 : decide (c < 0) = false := decide_eq_false hlv
        go_wp2_with fail
        apply wp_region_free (11) [⟨9, 49, .int .i64 c, false, fun v _ => v = .int .i64 c⟩] [] rfl (by kernel_rfl) (by kernel_rfl) (by kernel_rfl) (by simp) (by kernel_rfl)
        case hstab =>
          intro c hc
          simp only [List.mem_cons, List.not_mem_nil, or_false] at hc
          rcases hc with rfl
          · intro v x y hxy hv; exact hv
        case hfix =>
          intro c hc
          simp only [List.mem_cons, List.not_mem_nil, or_false] at hc
          rcases hc with rfl
          · exact .inr fun u x h => h
        case hlex =>
          intro U hU
          have q_c0 := cell_on hU c0
          have q_c1 := cell_on hU c1
          have q_d0 := cell_on hU d0
          have q_d1 := cell_on hU d1
          simp only [List.map_cons, List.map_nil, CA.act, actFrom, actOp, List.lookup, Nat.reduceBEq, Nat.reduceLeDiff, Nat.reduceAdd, if_false, if_true]
          repeat (go_big_quiet_step (first | fail))
          exact wpQuiet_nil rfl
        case hstep =>
          intro j hj o ho
          have hj2 : j = 0 := by simp at hj; omega
          rcases hj2 with rfl
          · cases ho
            refine ⟨rfl, fun g x hx hp => ?_⟩
            clear hp
            simp only [fillAll, Act.put, List.setIfInBounds_toArray, List.set_cons_zero, List.set_cons_succ]
            refine chain_go ?_ (free_fix (HC.out x))
            first | (simp [go_sem, execOp]; done) | simp [go_sem, execOp, hcf]
        case htail =>
          intro g u hst hne
          have b_w2 : AnyLater wr (later u) := ⟨u, rfl⟩
          generalize later u = w2 at *
          clear u
          clear hst hne
          simp only [fillAll, Act.put, List.setIfInBounds_toArray, List.set_cons_zero, List.set_cons_succ, List.drop_succ_cons, List.drop_zero, List.drop_nil]
          have z_w2 := b_w2.below.size
          have a_w2 := a_wr.trans b_w2
          have c0_w2 := cell_on b_w2 c0
          have c1_w2 := cell_on b_w2 c1
          have d0_w2 := cell_on b_w2 d0
          have d1_w2 := cell_on b_w2 d1
          go_wp2_with fail
          go_roundg (u - q)
          case measure => omega
          case rel => exact ⟨i, h, q, u, rfl, by omega, by omega, HIJ.out.1, HU.out, rfl, by go_num, a_w2, HR.out.2.1.later b_w2, HR.out.2.2.1, fun _ => by rw [HY.out]; exact hgt.out⟩
    · obtain rfl : q = t := by omega
      have HE : Hid (L' = P ++ (B.take q ++ ((x1, x2) :: (B.drop q ++ S)))) := Lib.hid (by
        rw [HS.out.2.2, List.singleton_append, ← one_left HB.out (x1, x2) (q := q) (by rw [HI.out.2]; exact htn) HR.out.2.2.2 (fun h => HR.out.2.2.1 h (by have := HI.out.2; omega))]
        simp only [List.append_assoc, List.cons_append])
      obtain ⟨ip, hip⟩ : ∃ ip, ip = p + q := ⟨_, rfl⟩
      obtain rfl : i = ip + 1 := by omega
      obtain rfl : j = ip + 1 := by omega
      have HIp := Lib.hid hip
      have HQn := Lib.hid htn
      have ilt : ip < N := by omega
      have hwi : IntKind.i64.wrap (ip : Int) = (ip : Int) := by rw [IntKind.wrap_i64]; omega
      clear hr aW hi hj hip HIJ hk hqt htn
      go_wp2_with fail
      go_loopg [13] q (fun kk kv wr => ∃ (k r : Nat), kk = q - r ∧ r ≤ q ∧ k = p + r ∧ kv = .int .i64 (k : Int) ∧ AnyLater W wr ∧ RowC wr g cap (P ++ (B.take r ++ ((x1, x2) :: (B.drop r ++ S)))))
      case atStart => exact ⟨p, 0, rfl, by omega, rfl, rfl, HR.out.1, by have := HR.out.2.1; simpa using this⟩
      case round =>
        obtain ⟨k, r, hkk, hrq, hkp, rfl, aW, hr⟩ := hrel
        have HR2 := Lib.hid (And.intro aW hr)
        have HK := Lib.hid hkp
        by_cases hlt2 : r < q
        · have hqn := HQn.out
          have rB : r < B.length := by have := HI.out.2; omega
          have i0 : (k : Int) < (ip : Int) := by have := HIp.out; omega
          obtain ⟨y, hy⟩ : ∃ y, B[r] = y := ⟨_, rfl⟩
          obtain ⟨y1, y2⟩ := y
          have eL : P ++ (B.take r ++ ((x1, x2) :: (B.drop r ++ S))) = (P ++ B.take r) ++ (x1, x2) :: ([] ++ (y1, y2) :: (B.drop (r + 1) ++ S)) := by
            rw [List.drop_eq_getElem_cons rB, hy]; simp only [List.append_assoc, List.cons_append, List.nil_append]
          have eL2 : P ++ (B.take (r + 1) ++ ((x1, x2) :: (B.drop (r + 1) ++ S))) = (P ++ B.take r) ++ (y1, y2) :: ([] ++ (x1, x2) :: (B.drop (r + 1) ++ S)) := by
            rw [List.take_succ_eq_append_getElem rB, hy]; simp only [List.append_assoc, List.cons_append, List.nil_append]
          have hUl : (P ++ B.take r).length = k := by rw [List.length_append, List.length_take, HI.out.1]; omega
          have hLl : ((P ++ B.take r) ++ (x1, x2) :: ([] ++ (y1, y2) :: (B.drop (r + 1) ++ S))).length = N := by
            simp only [List.length_append, List.length_cons, List.length_nil, List.length_take, List.length_drop, HI.out.1, HI.out.2]
            have := HL.out
            have := HI.out.2
            omega
          rw [eL] at hr
          obtain ⟨s1, s2, s3⟩ := swap_mid (P ++ B.take r) [] (B.drop (r + 1) ++ S) (x1, x2) (y1, y2) k (k + 1) hUl (by rw [hUl]; rfl)
          have hP := fun (w2 : World) (h : RowC w2 g cap ((P ++ B.take r) ++ (x1, x2) :: ([] ++ (y1, y2) :: (B.drop (r + 1) ++ S)))) => h.swap (i := k) (j := k + 1) (x1, x2) (y1, y2) (by rw [hLl]; omega) (by rw [hLl]; omega)
          rw [s3, ← eL2] at hP
          have HP := Lib.hid hP
          have HRr := Lib.hid hr
          obtain ⟨c0, c1⟩ := hr.cells s1
          obtain ⟨d0, d1⟩ := hr.cells s2
          have f0 := hr.free
          have l0 := hr.lt
          have n0 : (k + 1) * 2 ≠ k * 2 := by omega
          have n1 : (k + 1) * 2 ≠ k * 2 + 1 := by omega
          have n2 : (k + 1) * 2 + 1 ≠ k * 2 := by omega
          have n3 : (k + 1) * 2 + 1 ≠ k * 2 + 1 := by omega
          have i1 : (k : Int) + 1 < (N : Int) := by omega
          have i2 : (k : Int) < (N : Int) := by omega
          simp only at c0 c1 d0 d1
          clear hr aW s1 s2 s3 hP eL eL2 hUl hLl hy hkp hqn
          go_wp2_with fail
          go_big_region
          go_wp2_with fail
          go_roundg (q - (r + 1))
          case measure => omega
          case rel => exact ⟨k + 1, r + 1, rfl, hlt2, by have := HK.out; omega, by go_num, ((HR2.out.1.put hWg _ _ _ _).put hWg _ _ _ _).drew, RowC.later (AnyLater.refl _).drew (HP.out _ HRr.out)⟩
        · obtain rfl : r = q := by omega
          have d0 : decide ((k : Int) < (ip : Int)) = false := decide_eq_false (by have := HIp.out; omega)
          have d1 : decide (k < ip) = false := decide_eq_false (by have := HIp.out; omega)
          clear hr aW hkp
          go_wp2_with fail
          refine bodyPost_ret (v := .tuple #[]) (by simp [results, Tryd.results65, go_sem]) rfl ⟨rfl, HR2.out.1, by rw [HE.out]; exact HR2.out.2⟩
end Go.Proofs.YtkobnijjahpifaaDoor
