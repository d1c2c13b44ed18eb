/- metric: the document's Places, by contract. -/
import Derived.Test.YteplnejnhgmfiaaDoorMetI
import Derived.Test.YteplnejnhgmfiaaDoorTwo
import Derived.BigGuardPart
namespace Go.Proofs.YteplnejnhgmfiaaDoor
set_option linter.unusedSimpArgs false
set_option linter.unusedVariables false
set_option linter.unusedSectionVars false
open Go.RowKit

/-- two appends beside one another: what the region's walk asks of each of the four operations -/
theorem atsL_len (r : Ld) : (atsL r).length = r.cs.length + (if r.la then 1 else 0) := by
  unfold atsL
  rw [List.length_append, List.length_map]
  split <;> rfl
theorem atsL_cell {r : Ld} {j : Nat} (h : j < r.cs.length) : (atsL r).take (j + 1) = (atsL r).take j ++ [r.cs[j].1] := by
  unfold atsL
  rw [List.take_append_of_le_length (by rw [List.length_map]; omega), List.take_append_of_le_length (by rw [List.length_map]; omega)]
  exact atsL_take h
theorem atsL_last {r : Ld} (h : r.la = true) : (atsL r).take (r.cs.length + 1) = (atsL r).take r.cs.length ++ [r.en] := by
  have e1 : (atsL r).take r.cs.length = r.cs.map (·.1) := by
    unfold atsL
    rw [List.take_append_of_le_length (by rw [List.length_map]; exact Nat.le_refl _), List.take_of_length_le (by rw [List.length_map]; exact Nat.le_refl _)]
  rw [e1, List.take_of_length_le (by rw [atsL_len, h]; simp)]
  unfold atsL
  rw [if_pos h]
theorem xs_take {l : List Int} {j : Nat} (h : j < l.length) : l.take (j + 1) = l.take j ++ [l[j]] := List.take_succ_eq_append_getElem h
theorem placesL_take (r : Ld) : placesL r = (atsL r).take (min r.xs.length (r.cs.length + 1)) := by
  unfold placesL
  rcases Nat.le_total r.xs.length (r.cs.length + 1) with h | h
  · rw [Nat.min_eq_left h]
  · rw [Nat.min_eq_right h, List.take_of_length_le (by rw [atsL_len]; split <;> omega), List.take_of_length_le (by rw [atsL_len]; split <;> omega)]
set_option maxRecDepth 100000 in
set_option maxHeartbeats 800000 in
theorem xplaces_any (a1 a2 : Option Addr) (k1 k2 : Nat) (r : Ld) (w : World) (hc : FR celF w (.slice a1 r.cs.length k1) r.cs) (hxs : RI w (.slice a2 r.xs.length k2) r.xs) (hn : r.cs.length ≤ 1000) (hl : r.xs.length ≤ 100000) :
    Calls Tryd.prog 24 #[.agg #[.slice a1 r.cs.length k1, .slice a2 r.xs.length k2, .int .i64 r.up, .int .i64 r.dn, .int .i64 r.fr, .int .i64 r.en, .bool r.la]] w fun e w' => ∃ A B c d, e = .returned (.tuple #[.slice A (placesL r).length c, .slice B (placesL r).length d]) ∧ AnyLater w w' ∧ RI w' (.slice A (placesL r).length c) (placesL r) ∧ RI w' (.slice B (placesL r).length d) (r.xs.take (placesL r).length) := by
  have HV := Lib.hid hc
  have HX := Lib.hid hxs
  obtain ⟨n, hnn⟩ : ∃ n, r.cs.length = n := ⟨_, rfl⟩
  have HN := Lib.hid hnn
  obtain ⟨n2, hn2⟩ : ∃ n2, r.xs.length = n2 := ⟨_, rfl⟩
  have HN2 := Lib.hid hn2
  rw [hnn] at hn HV
  rw [hn2] at hl HX
  obtain ⟨la, hla⟩ : ∃ la, r.la = la := ⟨_, rfl⟩
  have HLA := Lib.hid hla
  have hAL := atsL_len r
  rw [hnn, hla] at hAL
  have HAL := Lib.hid hAL
  rw [hnn, hn2, hla]
  clear hc hxs hnn hn2 hla hAL
  obtain ⟨wb, hwb⟩ : ∃ wb, w.alloc (.cells #[.slice a1 n k1, .slice a2 n2 k2, .int .i64 r.up, .int .i64 r.dn, .int .i64 r.fr, .int .i64 r.en, .bool la] 43) = wb := ⟨_, rfl⟩
  have a_wb : AnyLater w wb := by rw [← hwb]; exact (AnyLater.refl w).alloc _
  have s0 : wb.heap[w.heap.size]? = some (.cells #[.slice a1 n k1, .slice a2 n2 k2, .int .i64 r.up, .int .i64 r.dn, .int .i64 r.fr, .int .i64 r.en, .bool la] 43) := by rw [← hwb]; exact heap_new rfl
  have zb : wb.heap.size = w.heap.size + 1 := by rw [← hwb]; simp
  have ht := twoR_new wb
  rw [zb] at ht
  have HT0 := Lib.hid ht
  have HAB := Lib.hid a_wb
  have HS0 := Lib.hid s0
  have HZB := Lib.hid zb
  have HWB : Hid (w.heap.size ≤ wb.heap.size) := Lib.hid a_wb.below.size
  obtain ⟨T, hT⟩ : ∃ T, atsL r = T := ⟨_, rfl⟩
  obtain ⟨X, hX⟩ : ∃ X, r.xs = X := ⟨_, rfl⟩
  have HTT := Lib.hid hT
  have HXX := Lib.hid hX
  obtain ⟨M, hM⟩ : ∃ M, min n2 (n + 1) = M := ⟨_, rfl⟩
  have HMM := Lib.hid hM
  rw [hT] at HAL
  clear ht a_wb s0 zb hT hX hM
  go_enter Tryd.func24, Tryd.ntmps24
  go_wp2_with fail
  (try rw [hwb])
  have HA0 : Hid (AnyLater wb ((wb.alloc (.cells #[] 3)).alloc (.cells #[] 3))) := Lib.hid (((AnyLater.refl wb).alloc _).alloc _)
  clear hwb
  go_loopg [4, 5, 6] M (fun kk av xv iv wr => AnyLater wb wr ∧ ∃ j : Nat, kk = M - j ∧ j ≤ M ∧ iv = .int .i64 j ∧ TwoR wr wb.heap.size av xv (T.take j) (X.take (min j T.length)))
  case atStart => exact ⟨HA0.out, 0, by omega, by omega, rfl, by rw [HZB.out]; exact HT0.out⟩
  case round =>
    obtain ⟨a_wr, j, hk, hj, rfl, ht⟩ := hrel
    have HA := Lib.hid a_wr
    have s0_wr := any_own a_wr HS0.out
    have r0_wr := own_row s0_wr
    by_cases hlt : j < M
    · have hj2 : j < n2 := by have := HMM.out; omega
      have hjn : j ≤ n := by have := HMM.out; omega
      have hTj : (T.take j).length = j := by rw [List.length_take, HAL.out]; omega
      have hXj : (X.take (min j T.length)).length = j := by rw [List.length_take, ← HXX.out, HN2.out, HAL.out]; omega
      have e1 : min j T.length = j := by rw [HAL.out]; omega
      rw [e1] at ht hXj
      have i0 : decide (j < n2) = true := decide_eq_true hj2
      have i1 : decide (j ≤ n) = true := decide_eq_true hjn
      have i2 : (j : Int) < (n2 : Int) := by omega
      have lx : j < r.xs.length := by rw [HN2.out]; exact hj2
      obtain ⟨⟨g1, c1, rfl, -⟩, ⟨g2, c2, rfl, -⟩, -⟩ := id ht
      rw [hTj, hXj] at ht ⊢
      have HT := Lib.hid ht
      obtain ⟨b2, off2, rfl, hb2, d1⟩ := numAt HX.out j lx
      obtain ⟨xv, hxv⟩ : ∃ xv, r.xs[j] = xv := ⟨_, rfl⟩
      have HXT : Hid (X.take (j + 1) = X.take j ++ [xv]) := Lib.hid (by rw [← hxv, ← HXX.out]; exact xs_take lx)
      rw [hxv] at d1
      obtain ⟨TA, hTA⟩ : ∃ TA, T.take j = TA := ⟨_, rfl⟩
      obtain ⟨XA, hXA⟩ : ∃ XA, X.take j = XA := ⟨_, rfl⟩
      have HTL : Hid (TA.length ≤ 90000) := Lib.hid (by rw [← hTA, hTj]; omega)
      have HXL : Hid (XA.length ≤ 90000) := Lib.hid (by rw [← hXA, hXj]; omega)
      rw [hTA, hXA] at HT
      rw [hXA] at HXT
      by_cases hjl : j < n
      · have i3 : decide (j < n) = true := decide_eq_true hjl
        have i4 : (j : Int) < (n : Int) := by omega
        have lj : j < r.cs.length := by rw [HN.out]; exact hjl
        obtain ⟨b, off, rfl, hb, d0, -, -, -⟩ := celAt HV.out j lj
        obtain ⟨av, hav⟩ : ∃ av, r.cs[j].1 = av := ⟨_, rfl⟩
        have HNX : Hid (∀ wx u1 u2, TwoR wx wb.heap.size u1 u2 (TA ++ [av]) (XA ++ [xv]) → TwoR wx wb.heap.size u1 u2 (T.take (j + 1)) (X.take (min (j + 1) T.length))) := Lib.hid (fun wx u1 u2 h => by
          have e2 : min (j + 1) T.length = j + 1 := by rw [HAL.out]; omega
          have e3 : T.take (j + 1) = TA ++ [av] := by rw [← hTA, ← hav, ← HTT.out]; exact atsL_cell lj
          rw [e2, e3, HXT.out]; exact h)
        rw [hav] at d0
        clear ht hTj hXj e1 hxv hTA hXA hav a_wr HXT
        go_wp2_with fail
        apply Whole.wp_region_of (AnyLater wb) 17 [(7, undef), (8, undef), (15, undef), (16, undef)] [⟨7, 35, fun _ _ => True⟩, ⟨8, 36, fun _ _ => True⟩, ⟨15, 43, fun _ _ => True⟩, ⟨16, 44, fun _ _ => True⟩] (fun L g x => S2 wb (.slice (some ⟨g1, 0, none⟩) j c1) (.slice (some ⟨g2, 0, none⟩) j c2) TA XA av xv (L 7) (L 8) (L 15) (L 16) (g 7) (g 8) (g 15) (g 16) x) (by kernel_rfl) (by kernel_rfl) (by kernel_rfl) (by simp) (by kernel_rfl) (fun L g x h => h.any)
        case hcong =>
          intro L L' g x hc hI
          have e1 := hc _ (List.mem_of_getElem? (i := 0) rfl)
          have e2 := hc _ (List.mem_of_getElem? (i := 1) rfl)
          have e3 := hc _ (List.mem_of_getElem? (i := 2) rfl)
          have e4 := hc _ (List.mem_of_getElem? (i := 3) rfl)
          dsimp only at e1 e2 e3 e4 ⊢
          rw [← e1, ← e2, ← e3, ← e4]
          exact hI
        case h0 => exact S2.init HA.out HT.out
        case hlex =>
          intro U hU
          have q0 := own_row (any_own hU HS0.out)
          have q1 := (hU.below.cell (Nat.lt_of_lt_of_le hb HWB.out)).trans ((HAB.out.below.cell hb).trans d0)
          have q2 := (hU.below.cell (Nat.lt_of_lt_of_le hb2 HWB.out)).trans ((HAB.out.below.cell hb2).trans d1)
          simp only [actFrom, actOp, List.lookup, Nat.reduceBEq, Nat.reduceLeDiff, Nat.reduceAdd, if_false, if_true]
          repeat (go_big_quiet_step (fail))
          exact wpQuiet_nil rfl
        case hact =>
          intro jj hjj o ho
          have hj6 : jj = 0 ∨ jj = 1 ∨ jj = 2 ∨ jj = 3 := by simp at hjj; omega
          rcases hj6 with rfl | rfl | rfl | rfl
          · cases ho
            refine ⟨rfl, ⟨_, List.mem_of_getElem? (i := 0) rfl, rfl⟩, fun L g x hI hL hS => ?_⟩
            clear hS
            simp only [fillAll, Act.put, List.setIfInBounds_toArray, List.set_cons_zero, List.set_cons_succ]
            exact chain_value (w' := x.alloc (.cells #[.int .i64 av] 3)) (by simp [go_sem, execOp]) hI.make
          · cases ho
            refine ⟨rfl, ⟨_, List.mem_of_getElem? (i := 1) rfl, rfl⟩, fun L g x hI hL hS => ?_⟩
            have h1 := hS _ (List.mem_of_getElem? (i := 0) rfl) (List.contains_iff_mem.1 (by kernel_rfl))
            obtain ⟨v', x', p1, p2⟩ := hI.app h1 hL HTL.out
            clear hS
            simp only [fillAll, Act.put, List.setIfInBounds_toArray, List.set_cons_zero, List.set_cons_succ]
            exact Whole.chain_app _ _ _ _ rfl _ _ rfl rfl p1 p2
          · cases ho
            refine ⟨rfl, ⟨_, List.mem_of_getElem? (i := 2) rfl, rfl⟩, fun L g x hI hL hS => ?_⟩
            clear hS
            simp only [fillAll, Act.put, List.setIfInBounds_toArray, List.set_cons_zero, List.set_cons_succ]
            exact chain_value (w' := x.alloc (.cells #[.int .i64 xv] 3)) (by simp [go_sem, execOp]) hI.symm.make.symm
          · cases ho
            refine ⟨rfl, ⟨_, List.mem_of_getElem? (i := 3) rfl, rfl⟩, fun L g x hI hL hS => ?_⟩
            have h1 := hS _ (List.mem_of_getElem? (i := 2) rfl) (List.contains_iff_mem.1 (by kernel_rfl))
            obtain ⟨v', x', p1, p2⟩ := hI.symm.app h1 hL HXL.out
            clear hS
            simp only [fillAll, Act.put, List.setIfInBounds_toArray, List.set_cons_zero, List.set_cons_succ]
            exact Whole.chain_app _ _ _ _ rfl _ _ rfl rfl p1 p2.symm
        case htail =>
          intro L g x hI hall
          have e2 := hall _ (List.mem_of_getElem? (i := 1) rfl)
          have e4 := hall _ (List.mem_of_getElem? (i := 3) rfl)
          dsimp only at e2 e4 hI
          rw [e2, e4] at hI
          have HF := Lib.hid hI.fin
          clear hI hall e2 e4
          simp only [fillAll, Act.put, List.setIfInBounds_toArray, List.set_cons_zero, List.set_cons_succ, List.drop_succ_cons, List.drop_zero, List.drop_nil]
          generalize g 8 = u1 at *
          generalize g 16 = u2 at *
          go_wp2_with fail
          go_roundg (M - (j + 1))
          case measure => omega
          case rel => exact ⟨HF.out.1, j + 1, rfl, by omega, by go_num, HNX.out _ _ _ HF.out.2⟩
      · obtain rfl : j = n := by omega
        have i3 : decide (j < j) = false := decide_eq_false (by omega)
        cases la with
        | false =>
          have HNX : Hid (TwoR wr wb.heap.size (.slice (some ⟨g1, 0, none⟩) j c1) (.slice (some ⟨g2, 0, none⟩) j c2) (T.take (j + 1)) (X.take (min (j + 1) T.length))) := Lib.hid (by
            have e2 : min (j + 1) T.length = j := by rw [HAL.out]; simp
            have e3 : T.take (j + 1) = T.take j := by rw [List.take_of_length_le (by rw [HAL.out]; simp), List.take_of_length_le (by rw [HAL.out]; simp)]
            rw [e2, e3]; exact ht)
          clear ht hTj hXj e1 hxv hTA hXA a_wr HXT
          go_wp2_with fail
          go_roundg (M - (j + 1))
          case measure => omega
          case rel => exact ⟨HA.out, j + 1, rfl, by omega, by go_num, HNX.out⟩
        | true =>
          have HNX : Hid (∀ wx u1 u2, TwoR wx wb.heap.size u1 u2 (TA ++ [r.en]) (XA ++ [xv]) → TwoR wx wb.heap.size u1 u2 (T.take (j + 1)) (X.take (min (j + 1) T.length))) := Lib.hid (fun wx u1 u2 h => by
            have e2 : min (j + 1) T.length = j + 1 := by rw [HAL.out]; simp
            have e3 : T.take (j + 1) = TA ++ [r.en] := by
              have h4 := atsL_last HLA.out
              rw [HN.out, HTT.out] at h4
              rw [h4, hTA]
            rw [e2, e3, HXT.out]; exact h)
          clear ht hTj hXj e1 hxv hTA hXA a_wr HXT
          go_wp2_with fail
          apply Whole.wp_region_of (AnyLater wb) 13 [(3, undef), (4, undef), (11, undef), (12, undef)] [⟨3, 50, fun _ _ => True⟩, ⟨4, 51, fun _ _ => True⟩, ⟨11, 58, fun _ _ => True⟩, ⟨12, 59, fun _ _ => True⟩] (fun L g x => S2 wb (.slice (some ⟨g1, 0, none⟩) j c1) (.slice (some ⟨g2, 0, none⟩) j c2) TA XA r.en xv (L 3) (L 4) (L 11) (L 12) (g 3) (g 4) (g 11) (g 12) x) (by kernel_rfl) (by kernel_rfl) (by kernel_rfl) (by simp) (by kernel_rfl) (fun L g x h => h.any)
          case hcong =>
            intro L L' g x hc hI
            have e1 := hc _ (List.mem_of_getElem? (i := 0) rfl)
            have e2 := hc _ (List.mem_of_getElem? (i := 1) rfl)
            have e3 := hc _ (List.mem_of_getElem? (i := 2) rfl)
            have e4 := hc _ (List.mem_of_getElem? (i := 3) rfl)
            dsimp only at e1 e2 e3 e4 ⊢
            rw [← e1, ← e2, ← e3, ← e4]
            exact hI
          case h0 => exact S2.init HA.out HT.out
          case hlex =>
            intro U hU
            have q0 := own_row (any_own hU HS0.out)
            have q2 := (hU.below.cell (Nat.lt_of_lt_of_le hb2 HWB.out)).trans ((HAB.out.below.cell hb2).trans d1)
            simp only [actFrom, actOp, List.lookup, Nat.reduceBEq, Nat.reduceLeDiff, Nat.reduceAdd, if_false, if_true]
            repeat (go_big_quiet_step (fail))
            exact wpQuiet_nil rfl
          case hact =>
            intro jj hjj o ho
            have hj6 : jj = 0 ∨ jj = 1 ∨ jj = 2 ∨ jj = 3 := by simp at hjj; omega
            rcases hj6 with rfl | rfl | rfl | rfl
            · cases ho
              refine ⟨rfl, ⟨_, List.mem_of_getElem? (i := 0) rfl, rfl⟩, fun L g x hI hL hS => ?_⟩
              clear hS
              simp only [fillAll, Act.put, List.setIfInBounds_toArray, List.set_cons_zero, List.set_cons_succ]
              exact chain_value (w' := x.alloc (.cells #[.int .i64 r.en] 3)) (by simp [go_sem, execOp]) hI.make
            · cases ho
              refine ⟨rfl, ⟨_, List.mem_of_getElem? (i := 1) rfl, rfl⟩, fun L g x hI hL hS => ?_⟩
              have h1 := hS _ (List.mem_of_getElem? (i := 0) rfl) (List.contains_iff_mem.1 (by kernel_rfl))
              obtain ⟨v', x', p1, p2⟩ := hI.app h1 hL HTL.out
              clear hS
              simp only [fillAll, Act.put, List.setIfInBounds_toArray, List.set_cons_zero, List.set_cons_succ]
              exact Whole.chain_app _ _ _ _ rfl _ _ rfl rfl p1 p2
            · cases ho
              refine ⟨rfl, ⟨_, List.mem_of_getElem? (i := 2) rfl, rfl⟩, fun L g x hI hL hS => ?_⟩
              clear hS
              simp only [fillAll, Act.put, List.setIfInBounds_toArray, List.set_cons_zero, List.set_cons_succ]
              exact chain_value (w' := x.alloc (.cells #[.int .i64 xv] 3)) (by simp [go_sem, execOp]) hI.symm.make.symm
            · cases ho
              refine ⟨rfl, ⟨_, List.mem_of_getElem? (i := 3) rfl, rfl⟩, fun L g x hI hL hS => ?_⟩
              have h1 := hS _ (List.mem_of_getElem? (i := 2) rfl) (List.contains_iff_mem.1 (by kernel_rfl))
              obtain ⟨v', x', p1, p2⟩ := hI.symm.app h1 hL HXL.out
              clear hS
              simp only [fillAll, Act.put, List.setIfInBounds_toArray, List.set_cons_zero, List.set_cons_succ]
              exact Whole.chain_app _ _ _ _ rfl _ _ rfl rfl p1 p2.symm
          case htail =>
            intro L g x hI hall
            have e2 := hall _ (List.mem_of_getElem? (i := 1) rfl)
            have e4 := hall _ (List.mem_of_getElem? (i := 3) rfl)
            dsimp only at e2 e4 hI
            rw [e2, e4] at hI
            have HF := Lib.hid hI.fin
            clear hI hall e2 e4
            simp only [fillAll, Act.put, List.setIfInBounds_toArray, List.set_cons_zero, List.set_cons_succ, List.drop_succ_cons, List.drop_zero, List.drop_nil]
            generalize g 4 = u1 at *
            generalize g 12 = u2 at *
            go_wp2_with fail
            go_roundg (M - (j + 1))
            case measure => omega
            case rel => exact ⟨HF.out.1, j + 1, rfl, by omega, by go_num, HNX.out _ _ _ HF.out.2⟩
    · obtain rfl : j = M := by omega
      have HP : Hid (placesL r = T.take j ∧ (placesL r).length = min j T.length) := Lib.hid (by
        have e : placesL r = T.take j := by rw [placesL_take, HN2.out, HN.out, HTT.out, HMM.out]
        exact ⟨e, by rw [e, List.length_take]⟩)
      have hR : RI wr (.slice none 0 0) [] → True := fun _ => trivial
      obtain ⟨⟨g1, c1, rfl, -⟩, ⟨g2, c2, rfl, -⟩, -, hR1, hR2⟩ := id ht
      have hXj : (X.take (min j T.length)).length = min j T.length := by rw [List.length_take, ← HXX.out, HN2.out]; have := HMM.out; omega
      have hTj : (T.take j).length = min j T.length := by rw [List.length_take]
      have HR : Hid (AnyLater w wr ∧ RI wr (.slice (some ⟨g1, 0, none⟩) (min j T.length) c1) (placesL r) ∧ RI wr (.slice (some ⟨g2, 0, none⟩) (min j T.length) c2) (r.xs.take (min j T.length))) := Lib.hid ⟨HAB.out.trans HA.out, by
        have := hR1.rn; rw [hTj] at this; rw [HP.out.1]; exact this, by
        have := hR2.rn; rw [hXj] at this; rw [HXX.out]; exact this⟩
      rw [hXj, hTj]
      have hMM := HMM.out
      have hway : decide (j < n2) = false ∨ decide (j < n2) = true ∧ decide (j ≤ n) = false := by
        by_cases q : j < n2
        · exact .inr ⟨decide_eq_true q, decide_eq_false (by omega)⟩
        · exact .inl (decide_eq_false q)
      obtain ⟨m, hm⟩ : ∃ m, min j T.length = m := ⟨_, rfl⟩
      rw [hm] at HR HP ⊢
      clear ht hR1 hR2 hXj hTj a_wr hMM hR hm
      rcases hway with i0 | ⟨i0, i1⟩
      all_goals
        go_wp2_with fail
        refine bodyPost_ret (v := .tuple #[.slice (some ⟨g1, 0, none⟩) m c1, .slice (some ⟨g2, 0, none⟩) m c2]) (by simp [results, Tryd.results24, go_sem]) rfl ⟨_, _, _, _, by rw [HP.out.2], HR.out.1, ?_, ?_⟩
        · rw [HP.out.2]; exact HR.out.2.1
        · rw [HP.out.2]; exact HR.out.2.2
end Go.Proofs.YteplnejnhgmfiaaDoor
