/- carets, the library's stable sort: the insertion sort by contract. -/
import Derived.Test.YtkobnijjahpifaaDoorCarB
import Derived.Test.YtkobnijjahpifaaDoorCarD
import Derived.Shelf.Abstract
namespace Go.Proofs.YtkobnijjahpifaaDoor
set_option linter.unusedSimpArgs false
set_option linter.unusedVariables false
set_option linter.unusedSectionVars false
open Go.RowKit

theorem swap_mid2 (U V T : Qs) (x y : Ca) (i j : Nat) (hi : U.length = i) (hj : U.length + 1 + V.length = j) :
    ((U ++ x :: (V ++ y :: T)).set j x).set i y = U ++ y :: (V ++ x :: T) := by
  rw [List.set_comm _ _ (by omega)]
  exact (swap_mid U V T x y i j hi hj).2.2
theorem ins_app (a : Ca) : ∀ (T1 T2 : Qs), (∀ b ∈ T1, leC b a = true) → (∀ b ∈ T2, leC b a = false) → kinsC a (T1 ++ T2) = T1 ++ a :: T2
  | [], [], _, _ => rfl
  | [], b :: t, _, h => insC_stop (h b List.mem_cons_self)
  | x :: t, T2, h, k => by rw [List.cons_append, insC_go (h x List.mem_cons_self), ins_app a t T2 (fun b hb => h b (List.mem_cons_of_mem _ hb)) k, List.cons_append]
set_option maxRecDepth 100000 in
set_option maxHeartbeats 6400000 in
theorem insert_any (g cap N : Nat) (P A S L L' : Qs) (W w : World) (az bz : Int) (hW : AnyLater W w) (hWg : W.heap.size ≤ g) (hr : RowC w g cap L) (hL : L = P ++ (A ++ S)) (hL' : L' = P ++ (sortC A ++ S)) (hN : L.length = N) (ha : az = (P.length : Int)) (hb : bz = (P.length : Int) + A.length) (hNN : N ≤ 100000) (hNc : N ≤ cap) :
    Calls Tryd.prog 64 #[.slice (some ⟨g, 0, none⟩) N cap, .int .i64 az, .int .i64 bz, .func (.func 36) #[] #[]] w (Wrote W g cap L') := by
  subst hL
  have HS := Lib.hid (And.intro hW (And.intro hr hL'))
  obtain ⟨p, hp⟩ : ∃ p, P.length = p := ⟨_, rfl⟩
  obtain ⟨n, hn⟩ : ∃ n, A.length = n := ⟨_, rfl⟩
  have hl : p + (n + S.length) = N := by rw [← hN, List.length_append, List.length_append, hp, hn]
  have HI := Lib.hid (And.intro hp hn)
  rw [hp] at ha hb
  rw [hn] at hb
  subst ha hb
  have hl2 : p + n ≤ N := by omega
  have HL := Lib.hid hl
  clear hW hr hN hp hn hL'
  have eg : ∀ args w, (callFunc 36 args).run Tryd.prog w = .ok (.enter 36 args) w := enters_of Tryd.func36 (by kernel_rfl) rfl
  go_enter Tryd.func64, Tryd.ntmps64
  go_wp2_with fail
  go_loopg [8] n (fun kk iv wr => ∃ (i k : Nat), kk = n + 1 - k ∧ i = p + k ∧ 1 ≤ k ∧ (k ≤ n ∨ k = 1) ∧ iv = .int .i64 (i : Int) ∧ AnyLater W wr ∧ RowC wr g cap (P ++ (sortC (A.take k) ++ (A.drop k ++ S))))
  case atStart =>
    refine ⟨p + 1, 1, by omega, rfl, Nat.le_refl _, .inr rfl, by go_num, HS.out.1, ?_⟩
    have e : P ++ (sortC (A.take 1) ++ (A.drop 1 ++ S)) = P ++ (A ++ S) := by
      cases A with
      | nil => rfl
      | cons c t => rfl
    rw [e]
    exact HS.out.2.1
  case round =>
    obtain ⟨i, k, hk, hi, hk1, hkn, rfl, aW, hr⟩ := hrel
    have HR := Lib.hid (And.intro aW hr)
    have HIk := Lib.hid hi
    clear aW hr
    by_cases hlt : k < n
    · have lk : k < A.length := by rw [HI.out.2]; exact hlt
      have i0 : (i : Int) < ((p : Int) + (n : Int)) := by omega
      have hTs := sortC_sorted (A.take k)
      have hTl : (sortC (A.take k)).length = k := by rw [sortC_len, List.length_take]; omega
      have hTn : sortC (A.take (k + 1)) = kinsC A[k] (sortC (A.take k)) := sortC_take lk
      have eD : A.drop k ++ S = A[k] :: (A.drop (k + 1) ++ S) := by rw [List.drop_eq_getElem_cons lk, List.cons_append]
      rw [eD] at HR
      have hRl : (A.drop (k + 1) ++ S).length + (k + 1) + p = N := by rw [List.length_append, List.length_drop, HI.out.2]; omega
      obtain ⟨R, hRe⟩ : ∃ R, A.drop (k + 1) ++ S = R := ⟨_, rfl⟩
      obtain ⟨a, hae⟩ : ∃ a, A[k] = a := ⟨_, rfl⟩
      rw [hRe] at HR hRl
      rw [hae] at HR hTn
      have HRe := Lib.hid hRe
      obtain ⟨T, hT⟩ : ∃ T, sortC (A.take k) = T := ⟨_, rfl⟩
      rw [hT] at HR hTs hTl hTn
      have HT := Lib.hid (And.intro hTs (And.intro hTl hTn))
      have HRl := Lib.hid hRl
      clear hT hTs hTl hTn eD hRl hRe hae hi
      go_wp2_with fail
      go_loopg [9] k (fun kk jv wr => ∃ (j : Nat) (T1 T2 : Qs), kk = T1.length ∧ T = T1 ++ T2 ∧ j = p + T1.length ∧ jv = .int .i64 (j : Int) ∧ (∀ b ∈ T2, leC b a = false) ∧ AnyLater W wr ∧ RowC wr g cap (P ++ (T1 ++ a :: (T2 ++ R))))
      case atStart => exact ⟨i, T, [], HT.out.2.1.symm, by simp, by rw [HT.out.2.1]; exact HIk.out, rfl, (fun b hb => by cases hb), HR.out.1, HR.out.2⟩
      case round =>
        obtain ⟨j, T1, T2, hkk, hTT, hj, rfl, hbig, aW, hr⟩ := hrel
        have HB := Lib.hid (And.intro hTT hbig)
        have HR2 := Lib.hid (And.intro aW hr)
        have hT12 : T1.length + T2.length = k := by rw [← HT.out.2.1, hTT, List.length_append]
        have HO : Hid ((∀ b ∈ T1, leC b a = true) → sortC (A.take (k + 1)) = T1 ++ a :: T2) := Lib.hid (fun h => by rw [HT.out.2.2, HB.out.1]; exact ins_app a T1 T2 h HB.out.2)
        have HJ := Lib.hid hj
        clear hTT hbig
        rcases last_two T1 with rfl | ⟨T0, y, rfl⟩
        · -- nothing is left ahead
          have d0 : decide (p < j) = false := decide_eq_false (by simp at hj; omega)
          have HO2 := Lib.hid (HO.out (fun b hb => by cases hb))
          clear hr aW hj
          go_wp2_with fail
          go_quiet (fail)
          go_wp2_with fail
          go_roundg (n + 1 - (k + 1))
          case measure => omega
          case rel => exact ⟨i + 1, k + 1, rfl, by have := HIk.out; omega, by omega, .inl hlt, by go_num, HR2.out.1.drewN _, by rw [HO2.out, HRe.out]; simpa using RowC.later ((AnyLater.refl _).drewN _) HR2.out.2⟩
        · obtain ⟨y1, y2⟩ := y
          obtain ⟨a1, a2⟩ := a
          obtain ⟨t, ht⟩ : ∃ t, T0.length = t := ⟨_, rfl⟩
          have hj2 : j = p + t + 1 := by rw [hj, List.length_append, ht]; simp; omega
          obtain ⟨jp, hjp⟩ : ∃ jp, p + t = jp := ⟨_, rfl⟩
          obtain rfl : j = jp + 1 := by omega
          have eL : P ++ ((T0 ++ [(y1, y2)]) ++ (a1, a2) :: (T2 ++ R)) = (P ++ T0) ++ (y1, y2) :: ([] ++ (a1, a2) :: (T2 ++ R)) := by simp only [List.append_assoc, List.cons_append, List.nil_append]
          have eL2 : P ++ (T0 ++ (a1, a2) :: (((y1, y2) :: T2) ++ R)) = (P ++ T0) ++ (a1, a2) :: ([] ++ (y1, y2) :: (T2 ++ R)) := by simp only [List.append_assoc, List.cons_append, List.nil_append]
          have hUl : (P ++ T0).length = jp := by rw [List.length_append, HI.out.1, ht]; exact hjp
          have hLl : ((P ++ T0) ++ (y1, y2) :: ([] ++ (a1, a2) :: (T2 ++ R))).length = N := by
            rw [← eL, ← HRl.out]
            simp only [List.length_append, List.length_cons, List.length_nil, HI.out.1, ht] at hT12 ⊢
            omega
          rw [eL] at hr
          obtain ⟨s1, s2, -⟩ := swap_mid (P ++ T0) [] (T2 ++ R) (y1, y2) (a1, a2) jp (jp + 1) hUl (by rw [hUl]; rfl)
          have s3 := swap_mid2 (P ++ T0) [] (T2 ++ R) (y1, y2) (a1, a2) jp (jp + 1) hUl (by rw [hUl]; rfl)
          have jlt : jp + 1 < N := by
            have := (List.getElem?_eq_some_iff.1 s2).1
            rwa [hLl] at this
          have hP := fun (w2 : World) (h : RowC w2 g cap ((P ++ T0) ++ (y1, y2) :: ([] ++ (a1, a2) :: (T2 ++ R)))) => h.swap (i := jp + 1) (j := jp) (a1, a2) (y1, y2) (by rw [hLl]; exact jlt) (by rw [hLl]; omega)
          rw [s3, ← eL2] at hP
          have HP := Lib.hid hP
          obtain ⟨d0, d1⟩ := hr.cells s1
          obtain ⟨c0, c1⟩ := hr.cells s2
          have HRr := Lib.hid hr
          have a_wr := aW
          obtain ⟨c, hc⟩ : ∃ c, cmpC (a1, a2) (y1, y2) = c := ⟨_, rfl⟩
          have HC := Lib.hid (fun w => byEnds_any a1 a2 y1 y2 w c hc)
          have HCc : Hid (c < 0 ↔ leC (y1, y2) (a1, a2) = false) := Lib.hid (by rw [← hc]; exact cmpC_lt _ _)
          have g0 : decide ((p : Int) < (jp : Int) + 1) = true := decide_eq_true (by omega)
          have i3 : (jp : Int) + 1 < (N : Int) := by omega
          have i4 : (jp : Int) < (N : Int) := by omega
          have hwp : IntKind.i64.wrap (jp : Int) = (jp : Int) := by rw [IntKind.wrap_i64]; omega
          have e0 : ((jp : Int) + 1).toNat = jp + 1 := by omega
          simp only at d0 d1 c0 c1
          have HeL := Lib.hid eL
          have HWg : Hid (W.heap.size ≤ g) := Lib.hid hWg
          have HTl : Hid ((T0 ++ [(y1, y2)]).length = T0.length + 1) := Lib.hid (by simp)
          have HJ2 : Hid (jp = p + T0.length) := Lib.hid (by rw [ht]; exact hjp.symm)
          have HB2 : Hid (T = T0 ++ (y1, y2) :: T2 ∧ (leC (y1, y2) (a1, a2) = false → ∀ b ∈ (y1, y2) :: T2, leC b (a1, a2) = false)) := Lib.hid ⟨by rw [HB.out.1]; simp, fun h b hb => by
            rcases List.mem_cons.1 hb with rfl | hb
            · exact h
            · exact HB.out.2 b hb⟩
          clear hr aW s1 s2 s3 hP eL eL2 hc hj hj2 ht hUl hLl hT12
          by_cases hlv : c < 0
          · have hgt := Lib.hid (HCc.out.1 hlv)
            go_wp2_with fail
            apply wp_region_free (17) [⟨14, 32, .int .i64 c, false, fun v _ => v = .int .i64 c⟩] [] rfl (by kernel_rfl) (by kernel_rfl) (by kernel_rfl) (by simp) (by kernel_rfl)
            case hstab =>
              intro c hc
              simp only [List.mem_cons, List.not_mem_nil, or_false] at hc
              rcases hc with rfl
              · intro v x y hxy hv; exact hv
            case hfix =>
              intro c hc
              simp only [List.mem_cons, List.not_mem_nil, or_false] at hc
              rcases hc with rfl
              · exact .inr fun u x h => h
            case hlex =>
              intro U hU
              have q_c0 := cell_on hU c0
              have q_c1 := cell_on hU c1
              have q_d0 := cell_on hU d0
              have q_d1 := cell_on hU d1
              simp only [List.map_cons, List.map_nil, CA.act, actFrom, actOp, List.lookup, Nat.reduceBEq, Nat.reduceLeDiff, Nat.reduceAdd, if_false, if_true]
              repeat (go_big_quiet_step (first | fail))
              exact wpQuiet_nil rfl
            case hstep =>
              intro j hj o ho
              have hj2 : j = 0 := by simp at hj; omega
              rcases hj2 with rfl
              · cases ho
                refine ⟨rfl, fun g x hx hp => ?_⟩
                clear hp
                simp only [fillAll, Act.put, List.setIfInBounds_toArray, List.set_cons_zero, List.set_cons_succ]
                refine chain_go ?_ (free_fix (HC.out x))
                first | (simp [go_sem, execOp]; done) | simp [go_sem, execOp, hcf]
            case htail =>
              intro g u hst hne
              have b_w2 : AnyLater wr (later u) := ⟨u, rfl⟩
              generalize later u = w2 at *
              clear u
              clear hst hne
              simp only [fillAll, Act.put, List.setIfInBounds_toArray, List.set_cons_zero, List.set_cons_succ, List.drop_succ_cons, List.drop_zero, List.drop_nil]
              have z_w2 := b_w2.below.size
              have a_w2 := a_wr.trans b_w2
              have c0_w2 := cell_on b_w2 c0
              have c1_w2 := cell_on b_w2 c1
              have d0_w2 := cell_on b_w2 d0
              have d1_w2 := cell_on b_w2 d1
              have HR3 := Lib.hid (HRr.out.later b_w2)
              have f0 := HR3.out.free
              have l0 := HR3.out.lt
              have HA3 := Lib.hid (HR2.out.1.trans b_w2)
              clear a_wr a_w2 b_w2
              have n0 : jp * 2 ≠ (jp + 1) * 2 := by omega
              have n1 : jp * 2 ≠ (jp + 1) * 2 + 1 := by omega
              have n2 : jp * 2 + 1 ≠ (jp + 1) * 2 := by omega
              have n3 : jp * 2 + 1 ≠ (jp + 1) * 2 + 1 := by omega
              go_wp2_with fail
              go_big_region
              go_wp2_with fail
              go_roundg T0.length
              case measure => have := HTl.out; omega
              case rel => exact ⟨jp, T0, (y1, y2) :: T2, rfl, HB2.out.1, HJ2.out, by go_num, HB2.out.2 hgt.out, (((HA3.out.put HWg.out _ _ _ _).put HWg.out _ _ _ _).drew), RowC.later (AnyLater.refl _).drew (HP.out _ HR3.out)⟩
          · have HO2 : Hid (leC (y1, y2) (a1, a2) = true → sortC (A.take (k + 1)) = T0 ++ [(y1, y2)] ++ (a1, a2) :: T2) := Lib.hid (fun h => HO.out (fun b hb => by
              rcases List.mem_append.1 hb with hb | hb
              · have hT0 := HT.out.1
                rw [HB.out.1] at hT0
                exact leC_trans ((List.pairwise_append.1 (List.pairwise_append.1 hT0).1).2.2 b hb (y1, y2) (by simp)) h
              · rw [List.mem_singleton] at hb
                rw [hb]; exact h))
            have hgt : Hid (leC (y1, y2) (a1, a2) = true) := Lib.hid (by
              cases h : leC (y1, y2) (a1, a2) with
              | true => rfl
              | false => exact absurd (HCc.out.2 h) hlv)
            have d2 : decide (c < 0) = false := decide_eq_false hlv
            go_wp2_with fail
            apply wp_region_free (17) [⟨14, 32, .int .i64 c, false, fun v _ => v = .int .i64 c⟩] [] rfl (by kernel_rfl) (by kernel_rfl) (by kernel_rfl) (by simp) (by kernel_rfl)
            case hstab =>
              intro c hc
              simp only [List.mem_cons, List.not_mem_nil, or_false] at hc
              rcases hc with rfl
              · intro v x y hxy hv; exact hv
            case hfix =>
              intro c hc
              simp only [List.mem_cons, List.not_mem_nil, or_false] at hc
              rcases hc with rfl
              · exact .inr fun u x h => h
            case hlex =>
              intro U hU
              have q_c0 := cell_on hU c0
              have q_c1 := cell_on hU c1
              have q_d0 := cell_on hU d0
              have q_d1 := cell_on hU d1
              simp only [List.map_cons, List.map_nil, CA.act, actFrom, actOp, List.lookup, Nat.reduceBEq, Nat.reduceLeDiff, Nat.reduceAdd, if_false, if_true]
              repeat (go_big_quiet_step (first | fail))
              exact wpQuiet_nil rfl
            case hstep =>
              intro j hj o ho
              have hj2 : j = 0 := by simp at hj; omega
              rcases hj2 with rfl
              · cases ho
                refine ⟨rfl, fun g x hx hp => ?_⟩
                clear hp
                simp only [fillAll, Act.put, List.setIfInBounds_toArray, List.set_cons_zero, List.set_cons_succ]
                refine chain_go ?_ (free_fix (HC.out x))
                first | (simp [go_sem, execOp]; done) | simp [go_sem, execOp, hcf]
            case htail =>
              intro g u hst hne
              have b_w2 : AnyLater wr (later u) := ⟨u, rfl⟩
              generalize later u = w2 at *
              clear u
              clear hst hne
              simp only [fillAll, Act.put, List.setIfInBounds_toArray, List.set_cons_zero, List.set_cons_succ, List.drop_succ_cons, List.drop_zero, List.drop_nil]
              have z_w2 := b_w2.below.size
              have a_w2 := a_wr.trans b_w2
              have c0_w2 := cell_on b_w2 c0
              have c1_w2 := cell_on b_w2 c1
              have d0_w2 := cell_on b_w2 d0
              have d1_w2 := cell_on b_w2 d1
              go_wp2_with fail
              go_roundg (n + 1 - (k + 1))
              case measure => omega
              case rel => exact ⟨i + 1, k + 1, rfl, by have := HIk.out; omega, by omega, .inl hlt, by go_num, a_w2, by rw [HO2.out hgt.out, HRe.out]; have := HRr.out.later b_w2; rw [← HeL.out] at this; simpa using this⟩
    · have e : A.take k = A := List.take_of_length_le (by rw [HI.out.2]; omega)
      have e2 : A.drop k = [] := List.drop_of_length_le (by rw [HI.out.2]; omega)
      have HE : Hid (L' = P ++ (sortC (A.take k) ++ (A.drop k ++ S))) := Lib.hid (by rw [e, e2, HS.out.2.2]; rfl)
      have d0 : decide ((i : Int) < ((p : Int) + (n : Int))) = false := decide_eq_false (by omega)
      clear hi e e2
      go_wp2_with fail
      refine bodyPost_ret (v := .tuple #[]) (by simp [results, Tryd.results64, go_sem]) rfl ⟨rfl, HR.out.1, by rw [HE.out]; exact HR.out.2⟩
end Go.Proofs.YtkobnijjahpifaaDoor
