/- carets: within, Good, Chosen of the program, Within of the document, by contract. -/
import Derived.Test.YtkobnijjahpifaaDoorCarK
import Derived.Test.YtkobnijjahpifaaDoorCarL
namespace Go.Proofs.YtkobnijjahpifaaDoor
set_option linter.unusedSimpArgs false
set_option linter.unusedVariables false
set_option linter.unusedSectionVars false
open Go.RowKit

theorem withinC_take {l : Qs} {n : Int} {j : Nat} (h : j < l.length) : withinC (l.take (j + 1)) n = (withinC (l.take j) n && (decide (0 ≤ loC l[j]) && decide (hiC l[j] ≤ n))) := by
  unfold withinC
  rw [List.take_succ_eq_append_getElem h, List.all_append]
  simp
theorem withinC_no {l : Qs} {n : Int} {j : Nat} (h : j < l.length) (hc : (decide (0 ≤ loC l[j]) && decide (hiC l[j] ≤ n)) = false) : withinC l n = false := by
  rw [Bool.eq_false_iff, ne_eq, withinC_iff]
  intro hh
  have := hh l[j] (List.getElem_mem h)
  simp at hc
  omega
set_option maxRecDepth 100000 in
set_option maxHeartbeats 3200000 in
theorem kwithin_any (v : Value) (l : Qs) (n : Int) (c : Bool) (w : World) (hc : withinC l n = c) (hv : QR w v l) (hl : l.length ≤ 100000) : Calls Tryd.prog 15 #[v, .int .i64 n] w fun e w' => e = .returned (.bool c) ∧ AnyLater w w' := by
  obtain ⟨A, cap, rfl, h2, h3⟩ := hv
  have HCC : Hid (∀ (j : Nat) (h : j < l.length), ∃ b off, A = some ⟨b, off, none⟩ ∧ b < w.heap.size ∧ w.cell? ⟨b, off + j * 2, none⟩ = some (.int .i64 l[j].1) ∧ w.cell? ⟨b, off + j * 2 + 1, none⟩ = some (.int .i64 l[j].2)) := Lib.hid (fun j hj => by
    obtain ⟨b, off, e, hb, hc⟩ := h3 (by omega)
    exact ⟨b, off, e, hb, hc j hj⟩)
  have HM := Lib.hid hc
  obtain ⟨m, hn⟩ : ∃ m, l.length = m := ⟨_, rfl⟩
  have HN := Lib.hid hn
  rw [hn] at h2 hl ⊢
  clear h3 hc hn
  go_enter Tryd.func15, Tryd.ntmps15
  go_wp2_with fail
  go_loopg [11] m (fun kk iv wr => ∃ j : Nat, kk = m - j ∧ j ≤ m ∧ iv = .int .i64 (j : Int) ∧ AnyLater w wr ∧ withinC (l.take j) n = true)
  case atStart => exact ⟨0, by omega, by omega, rfl, AnyLater.refl _, rfl⟩
  case round =>
    obtain ⟨j, hk, hj, rfl, a_wr, hw⟩ := hrel
    have HW := Lib.hid hw
    have HA := Lib.hid a_wr
    clear hw
    by_cases hlt : j < m
    · have lj : j < l.length := by rw [HN.out]; exact hlt
      have i0 : (j : Int) < (m : Int) := by omega
      obtain ⟨b, off, rfl, hb, k0, k1⟩ := HCC.out j lj
      have c0 : wr.cell? ⟨b, off + j * 2, none⟩ = some (.int .i64 l[j].1) := (a_wr.below.cell hb).trans k0
      have c1 : wr.cell? ⟨b, off + j * 2 + 1, none⟩ = some (.int .i64 l[j].2) := (a_wr.below.cell hb).trans k1
      have HT := Lib.hid (withinC_take (n := n) lj)
      have HF := Lib.hid (fun q => withinC_no (n := n) lj q)
      clear k0 k1
      obtain ⟨x, hx⟩ : ∃ x, l[j] = x := ⟨_, rfl⟩
      rw [hx] at c0 c1 HT HF
      clear hx
      obtain ⟨a, h⟩ := x
      simp only at c0 c1
      have HE := Lib.hid (kends_any a h)
      have HB := Lib.hid ((AnyLater.refl wr).alloc (.cells #[.int .i64 a, .int .i64 h] 45))
      generalize loC (a, h) = lo at *
      generalize hiC (a, h) = hi at *
      clear a_wr
      by_cases g1 : lo < 0
      · have Q : Hid (false = c) := Lib.hid (by rw [← HM.out, HF.out (by rw [decide_eq_false (by omega)]; rfl)])
        go_wp2_with fail
        refine (HE.out _).mono ?_
        rintro e w1 ⟨rfl, b1⟩
        have HB1 := Lib.hid (HB.out.trans b1)
        clear b1
        go_wp2_with fail
        go_ret
        exact ⟨ret_bool Q.out, HA.out.trans HB1.out⟩
      · have g1' : decide (lo < 0) = false := decide_eq_false g1
        by_cases g2 : n < hi
        · have Q : Hid (false = c) := Lib.hid (by rw [← HM.out, HF.out (by rw [decide_eq_false (show ¬ hi ≤ n by omega), Bool.and_false])])
          go_wp2_with fail
          refine (HE.out _).mono ?_
          rintro e w1 ⟨rfl, b1⟩
          have HB1 := Lib.hid (HB.out.trans b1)
          clear b1
          go_wp2_with fail
          go_ret
          exact ⟨ret_bool Q.out, HA.out.trans HB1.out⟩
        · have g2' : decide (n < hi) = false := decide_eq_false g2
          have Q : Hid (withinC (l.take (j + 1)) n = true) := Lib.hid (by rw [HT.out, HW.out, decide_eq_true (show 0 ≤ lo by omega), decide_eq_true (show hi ≤ n by omega)]; rfl)
          go_wp2_with fail
          refine (HE.out _).mono ?_
          rintro e w1 ⟨rfl, b1⟩
          have HB1 := Lib.hid (HB.out.trans b1)
          clear b1
          go_wp2_with fail
          go_roundg (m - (j + 1))
          case measure => omega
          case rel => exact ⟨j + 1, rfl, hlt, by go_num, HA.out.trans HB1.out, Q.out⟩
    · obtain rfl : j = m := by omega
      have Q : Hid (true = c) := Lib.hid (by have := HW.out; rw [List.take_of_length_le (Nat.le_of_eq HN.out), HM.out] at this; exact this.symm)
      clear a_wr
      go_wp2_with fail
      go_ret
      exact ⟨ret_bool Q.out, HA.out⟩
set_option maxRecDepth 100000 in
set_option maxHeartbeats 3200000 in
theorem xwithin_any (v : Value) (l : Qs) (n : Int) (c : Bool) (w : World) (hc : withinC l n = c) (hv : QR w v l) (hl : l.length ≤ 100000) : Calls Tryd.prog 12 #[v, .int .i64 n] w fun e w' => e = .returned (.bool c) ∧ AnyLater w w' := by
  obtain ⟨A, cap, rfl, h2, h3⟩ := hv
  have HCC : Hid (∀ (j : Nat) (h : j < l.length), ∃ b off, A = some ⟨b, off, none⟩ ∧ b < w.heap.size ∧ w.cell? ⟨b, off + j * 2, none⟩ = some (.int .i64 l[j].1) ∧ w.cell? ⟨b, off + j * 2 + 1, none⟩ = some (.int .i64 l[j].2)) := Lib.hid (fun j hj => by
    obtain ⟨b, off, e, hb, hc⟩ := h3 (by omega)
    exact ⟨b, off, e, hb, hc j hj⟩)
  have HM := Lib.hid hc
  obtain ⟨m, hn⟩ : ∃ m, l.length = m := ⟨_, rfl⟩
  have HN := Lib.hid hn
  rw [hn] at h2 hl ⊢
  clear h3 hc hn
  go_enter Tryd.func12, Tryd.ntmps12
  go_wp2_with fail
  go_loopg [5] m (fun kk iv wr => ∃ j : Nat, kk = m - j ∧ j ≤ m ∧ iv = .int .i64 (j : Int) ∧ AnyLater w wr ∧ withinC (l.take j) n = true)
  case atStart => exact ⟨0, by omega, by omega, rfl, AnyLater.refl _, rfl⟩
  case round =>
    obtain ⟨j, hk, hj, rfl, a_wr, hw⟩ := hrel
    have HW := Lib.hid hw
    have HA := Lib.hid a_wr
    clear hw
    by_cases hlt : j < m
    · have lj : j < l.length := by rw [HN.out]; exact hlt
      have i0 : (j : Int) < (m : Int) := by omega
      obtain ⟨b, off, rfl, hb, k0, k1⟩ := HCC.out j lj
      have c0 : wr.cell? ⟨b, off + j * 2, none⟩ = some (.int .i64 l[j].1) := (a_wr.below.cell hb).trans k0
      have c1 : wr.cell? ⟨b, off + j * 2 + 1, none⟩ = some (.int .i64 l[j].2) := (a_wr.below.cell hb).trans k1
      have HT := Lib.hid (withinC_take (n := n) lj)
      have HF := Lib.hid (fun q => withinC_no (n := n) lj q)
      clear k0 k1
      obtain ⟨x, hx⟩ : ∃ x, l[j] = x := ⟨_, rfl⟩
      rw [hx] at c0 c1 HT HF
      clear hx
      obtain ⟨a, h⟩ := x
      simp only at c0 c1
      have HE := Lib.hid (fun w => low_any a h w _ rfl)
      have HG := Lib.hid (fun w => high_any a h w _ rfl)
      generalize loC (a, h) = lo at *
      generalize hiC (a, h) = hi at *
      clear a_wr
      by_cases g1 : lo < 0
      · have Q : Hid (false = c) := Lib.hid (by rw [← HM.out, HF.out (by rw [decide_eq_false (by omega)]; rfl)])
        go_wp2_with fail
        refine (HE.out _).mono ?_
        rintro e w1 ⟨rfl, b1⟩
        have HB1 := Lib.hid b1
        clear b1
        go_wp2_with fail
        go_ret
        exact ⟨ret_bool Q.out, HA.out.trans HB1.out⟩
      · have g1' : decide (lo < 0) = false := decide_eq_false g1
        by_cases g2 : n < hi
        · have Q : Hid (false = c) := Lib.hid (by rw [← HM.out, HF.out (by rw [decide_eq_false (show ¬ hi ≤ n by omega), Bool.and_false])])
          go_wp2_with fail
          refine (HE.out _).mono ?_
          rintro e w1 ⟨rfl, b1⟩
          have c0' := cell_on b1 c0
          have c1' := cell_on b1 c1
          have HB1 := Lib.hid b1
          clear b1
          go_wp2_with fail
          refine (HG.out _).mono ?_
          rintro e w2 ⟨rfl, b2⟩
          have HB2 := Lib.hid (HB1.out.trans b2)
          clear b2
          go_wp2_with fail
          go_ret
          exact ⟨ret_bool Q.out, HA.out.trans HB2.out⟩
        · have g2' : decide (n < hi) = false := decide_eq_false g2
          have Q : Hid (withinC (l.take (j + 1)) n = true) := Lib.hid (by rw [HT.out, HW.out, decide_eq_true (show 0 ≤ lo by omega), decide_eq_true (show hi ≤ n by omega)]; rfl)
          go_wp2_with fail
          refine (HE.out _).mono ?_
          rintro e w1 ⟨rfl, b1⟩
          have c0' := cell_on b1 c0
          have c1' := cell_on b1 c1
          have HB1 := Lib.hid b1
          clear b1
          go_wp2_with fail
          refine (HG.out _).mono ?_
          rintro e w2 ⟨rfl, b2⟩
          have HB2 := Lib.hid (HB1.out.trans b2)
          clear b2
          go_wp2_with fail
          go_roundg (m - (j + 1))
          case measure => omega
          case rel => exact ⟨j + 1, rfl, hlt, by go_num, HA.out.trans HB2.out, Q.out⟩
    · obtain rfl : j = m := by omega
      have Q : Hid (true = c) := Lib.hid (by have := HW.out; rw [List.take_of_length_le (Nat.le_of_eq HN.out), HM.out] at this; exact this.symm)
      have d0 : decide ((j : Int) < (j : Int)) = false := by simp
      clear a_wr
      go_wp2_with fail
      go_ret
      exact ⟨ret_bool Q.out, HA.out⟩
set_option maxRecDepth 100000 in
theorem kgood_any (v : Value) (l : Qs) (n : Int) (c : Bool) (w : World) (hc : goodC l n = c) (hv : QR w v l) (hl : l.length ≤ 39) : Calls Tryd.prog 13 #[v, .int .i64 n] w fun e w' => e = .returned (.bool c) ∧ AnyLater w w' := by
  have HC : Hid ((decide (0 < l.length) && (withinC l n && decide (l = tidyC l))) = c) := Lib.hid hc
  have HQ := Lib.hid hv
  have HT := Lib.hid (fun (w : World) (h : QR w v l) => ktidy_any v l _ w rfl h hl)
  have HW := Lib.hid (fun (w : World) (h : QR w v l) => kwithin_any v l n _ w rfl h (by omega))
  have HE := Lib.hid (fun (w : World) (u : Value) (h : QR w v l) (k : QR w u (tidyC l)) => cequal_any v u l (tidyC l) w _ rfl h k (by omega))
  obtain ⟨A, cap, rfl, h2⟩ := hv.form
  obtain ⟨m, hm⟩ : ∃ m, l.length = m := ⟨_, rfl⟩
  rw [hm] at HC HQ HT HW HE ⊢
  clear hc hv hl hm h2
  generalize withinC l n = b1 at *
  generalize hb2 : decide (l = tidyC l) = b2 at *
  clear hb2
  generalize tidyC l = M at *
  by_cases g0 : 0 < m
  · have g0' : (0 : Int) < (m : Int) := by omega
    have HC2 : Hid ((b1 && b2) = c) := Lib.hid (by have := HC.out; rwa [decide_eq_true g0, Bool.true_and] at this)
    cases b1 with
    | true =>
      have Q : Hid (b2 = c) := Lib.hid HC2.out
      go_enter Tryd.func13, Tryd.ntmps13
      go_wp2_with fail
      refine (HW.out _ HQ.out).mono ?_
      rintro e w1 ⟨rfl, b_w1⟩
      have HB1 := Lib.hid b_w1
      clear b_w1
      go_wp2_with fail
      refine (HT.out _ (HQ.out.later HB1.out)).mono ?_
      rintro e w2 ⟨u, rfl, b_w2, o2⟩
      have HB2 := Lib.hid (HB1.out.trans b_w2)
      have HU := Lib.hid (OQ.rq o2)
      clear b_w2 o2
      go_wp2_with fail
      refine (HE.out _ _ (HQ.out.later HB2.out) HU.out).mono ?_
      rintro e w3 ⟨rfl, b_w3⟩
      have HB3 := Lib.hid (HB2.out.trans b_w3)
      clear b_w3
      go_wp2_with fail
      go_ret
      exact ⟨ret_bool Q.out, HB3.out⟩
    | false =>
      have Q : Hid (false = c) := Lib.hid HC2.out
      go_enter Tryd.func13, Tryd.ntmps13
      go_wp2_with fail
      refine (HW.out _ HQ.out).mono ?_
      rintro e w1 ⟨rfl, b_w1⟩
      have HB1 := Lib.hid b_w1
      clear b_w1
      go_wp2_with fail
      go_ret
      exact ⟨ret_bool Q.out, HB1.out⟩
  · have Q : Hid (false = c) := Lib.hid (by have := HC.out; rwa [decide_eq_false g0, Bool.false_and] at this)
    have d0 : decide ((0 : Int) < (m : Int)) = false := decide_eq_false (by omega)
    have d0' : decide (0 < m) = false := decide_eq_false g0
    go_enter Tryd.func13, Tryd.ntmps13
    go_wp2_with fail
    go_ret
    exact ⟨ret_bool Q.out, AnyLater.refl _⟩

/-! ### Chosen -/
end Go.Proofs.YtkobnijjahpifaaDoor
