/- metric: Row, of the program and of the document: by contract. -/
import Derived.Test.YteplnejnhgmfiaaDoorMetC
import Derived.BigGuardPart
namespace Go.Proofs.YteplnejnhgmfiaaDoor
set_option linter.unusedSimpArgs false
set_option linter.unusedVariables false
set_option linter.unusedSectionVars false
open Go.RowKit

theorem rowG_in (y : Int) (L : List Ld) : ∀ g k, k < L.length → ∃ m : Nat, m < L.length ∧ rowG y L g k = ((m : Int), sumL (L.take m))
  | 0, k, h => ⟨k, h, rfl⟩
  | g + 1, k, h => by
    unfold rowG
    split
    · rename_i q
      exact rowG_in y L g (k + 1) q.1
    · exact ⟨k, h, rfl⟩
set_option maxRecDepth 100000 in
set_option maxHeartbeats 1600000 in
theorem mrow_any (v : Value) (L : List Ld) (y : Int) (w : World) (r1 r2 : Int) (hr : rowL y L = (r1, r2)) (hv : LR w v L) (hN : LdsOk L) (hl : L.length ≤ 1000) (hy : I64s y) :
    Calls Tryd.prog 16 #[v, .int .i64 y] w fun e w' => e = .returned (.tuple #[.int .i64 r1, .int .i64 r2]) ∧ AnyLater w w' := by
  obtain ⟨A, cap, rfl, hc⟩ := hv.form
  have HV := Lib.hid hv
  have HNN := Lib.hid hN
  obtain ⟨n, hn⟩ : ∃ n, L.length = n := ⟨_, rfl⟩
  have HL := Lib.hid hn
  obtain ⟨hy1, hy2⟩ := hy
  by_cases h0 : n = 0
  · subst h0
    have HR : Hid (-1 = r1 ∧ 0 = r2) := Lib.hid (by
      unfold rowL at hr
      rw [if_pos hn] at hr
      cases hr; exact ⟨rfl, rfl⟩)
    rw [hn] at hc ⊢
    clear hv hN hr hl hn
    go_enter Tryd.func16, Tryd.ntmps16
    go_wp2_with fail
    refine bodyPost_ret (v := .tuple #[.int .i64 r1, .int .i64 r2]) (by rw [← HR.out.1, ← HR.out.2]; simp [results, Tryd.results16, go_sem]) rfl ⟨rfl, AnyLater.refl _⟩
  · have HR : Hid (rowG y L (n - 0) 0 = (r1, r2)) := Lib.hid (by rw [← hr]; unfold rowL; rw [if_neg (by omega), hn]; rfl)
    have n0 : ((n : Int) == 0) = false := by simpa using h0
    rw [hn] at HV hc hl ⊢
    clear hv hN hn hr
    go_enter Tryd.func16, Tryd.ntmps16
    go_wp2_with fail
    go_loopg [4, 5] n (fun kk kv tv wr => AnyLater w wr ∧ ∃ k : Nat, kk = n - k ∧ k < n ∧ kv = .int .i64 k ∧ tv = .int .i64 (sumL (L.take k)) ∧ rowG y L (n - k) k = (r1, r2))
    case atStart => exact ⟨AnyLater.refl w, 0, by omega, by omega, rfl, rfl, HR.out⟩
    case round =>
      obtain ⟨a_wr, k, hk, hkn, rfl, rfl, hrr⟩ := hrel
      have HA := Lib.hid a_wr
      have HRR := Lib.hid hrr
      have hx := sumL_in (L.take k)
      rw [List.length_take, HL.out, Nat.min_eq_left (Nat.le_of_lt hkn)] at hx
      by_cases hlt : k + 1 < n
      · have lk : k < L.length := by rw [HL.out]; omega
        have d0 : (k : Int) < (n : Int) - 1 := by omega
        have HT := Lib.hid (sumL_take lk)
        obtain ⟨x, hxx⟩ : ∃ x, sumL (L.take k) = x := ⟨_, rfl⟩
        have HXX := Lib.hid hxx
        rw [hxx] at hx HT ⊢
        obtain ⟨x0, x1⟩ := hx
        obtain ⟨b, off, a1, k1, a2, k2, rfl, hb, -, c0, c1, c2, c3, c4, c5, c6⟩ := ldAt (HV.out.later a_wr) k lk
        have hok := HNN.out L[k] (List.getElem_mem lk)
        obtain ⟨p, hp⟩ : ∃ p, L[k] = p := ⟨_, rfl⟩
        rw [hp] at HT c0 c1 c2 c3 c4 c5 c6 hok
        obtain ⟨z, hz⟩ : ∃ z, htL p = z := ⟨_, rfl⟩
        have hzb := htL_in p
        rw [hz] at hzb HT
        obtain ⟨z0, z1⟩ := hzb
        have HH := Lib.hid (fun w => mheight_any a1 a2 p.cs.length k1 p.xs.length k2 p.up p.dn p.fr p.en p.la w z hz hok.1.1 hok.1.2.1)
        clear hxx hp hok hz hrr
        by_cases hyq : x + z ≤ y
        · have HG : Hid (rowG y L (n - (k + 1)) (k + 1) = (r1, r2)) := Lib.hid (by
            rw [← HRR.out, ← HL.out]
            exact (rowG_go (by rw [HL.out]; exact hlt) (by rw [HT.out]; exact hyq)).symm)
          go_wp2_with fail
          refine (HH.out _).mono ?_
          rintro e w2 ⟨rfl, b_w2⟩
          have HB := Lib.hid (HA.out.trans b_w2)
          have e0 := (b_w2.below.cell hb).trans c0
          have e1 := (b_w2.below.cell hb).trans c1
          have e2 := (b_w2.below.cell hb).trans c2
          have e3 := (b_w2.below.cell hb).trans c3
          have e4 := (b_w2.below.cell hb).trans c4
          have e5 := (b_w2.below.cell hb).trans c5
          have e6 := (b_w2.below.cell hb).trans c6
          clear b_w2 a_wr
          go_wp2_with fail
          refine (HH.out _).mono ?_
          rintro e w3 ⟨rfl, b_w3⟩
          have HB3 := Lib.hid (HB.out.trans b_w3)
          clear b_w3
          go_wp2_with fail
          go_roundg (n - (k + 1))
          case measure => omega
          case rel => exact ⟨HB3.out, k + 1, rfl, hlt, by go_num, by rw [HT.out], HG.out⟩
        · have HG : Hid ((k : Int) = r1 ∧ x = r2) := Lib.hid (by
            have h := HRR.out
            rw [rowG_end (.inr (by rw [HT.out]; omega)), HXX.out] at h
            cases h; exact ⟨rfl, rfl⟩)
          have d1 : decide (x + z ≤ y) = false := decide_eq_false hyq
          go_wp2_with fail
          refine (HH.out _).mono ?_
          rintro e w2 ⟨rfl, b_w2⟩
          have HB := Lib.hid (HA.out.trans b_w2)
          clear b_w2 a_wr
          go_wp2_with fail
          refine bodyPost_ret (v := .tuple #[.int .i64 r1, .int .i64 r2]) (by rw [← HG.out.1, ← HG.out.2]; simp [results, Tryd.results16, go_sem]) rfl ⟨rfl, HB.out⟩
      · have d0 : decide ((k : Int) < (n : Int) - 1) = false := decide_eq_false (by omega)
        have HG : Hid ((k : Int) = r1 ∧ sumL (L.take k) = r2) := Lib.hid (by
          have h := HRR.out
          rw [rowG_end (.inl (by rw [HL.out]; omega))] at h
          cases h; exact ⟨rfl, rfl⟩)
        obtain ⟨x, hxx⟩ : ∃ x, sumL (L.take k) = x := ⟨_, rfl⟩
        rw [hxx] at HG ⊢
        clear a_wr hrr hx hxx
        go_wp2_with fail
        refine bodyPost_ret (v := .tuple #[.int .i64 r1, .int .i64 r2]) (by rw [← HG.out.1, ← HG.out.2]; simp [results, Tryd.results16, go_sem]) rfl ⟨rfl, HA.out⟩
set_option maxRecDepth 100000 in
set_option maxHeartbeats 1600000 in
theorem xrow_any (v : Value) (L : List Ld) (y : Int) (w : World) (r1 r2 : Int) (hr : rowL y L = (r1, r2)) (hv : LR w v L) (hN : LdsOk L) (hl : L.length ≤ 1000) (hy : I64s y) :
    Calls Tryd.prog 17 #[v, .int .i64 y] w fun e w' => e = .returned (.tuple #[.int .i64 r1, .int .i64 r2]) ∧ AnyLater w w' := by
  obtain ⟨A, cap, rfl, hc⟩ := hv.form
  have HV := Lib.hid hv
  have HNN := Lib.hid hN
  obtain ⟨n, hn⟩ : ∃ n, L.length = n := ⟨_, rfl⟩
  have HL := Lib.hid hn
  obtain ⟨hy1, hy2⟩ := hy
  by_cases h0 : n = 0
  · subst h0
    have HR : Hid (-1 = r1 ∧ 0 = r2) := Lib.hid (by
      unfold rowL at hr
      rw [if_pos hn] at hr
      cases hr; exact ⟨rfl, rfl⟩)
    rw [hn] at hc ⊢
    clear hv hN hr hl hn
    go_enter Tryd.func17, Tryd.ntmps17
    go_wp2_with fail
    refine bodyPost_ret (v := .tuple #[.int .i64 r1, .int .i64 r2]) (by rw [← HR.out.1, ← HR.out.2]; simp [results, Tryd.results17, go_sem]) rfl ⟨rfl, AnyLater.refl _⟩
  · have HR : Hid (rowG y L (n - 0) 0 = (r1, r2)) := Lib.hid (by rw [← hr]; unfold rowL; rw [if_neg (by omega), hn]; rfl)
    have n0 : ((n : Int) == 0) = false := by simpa using h0
    have HU : Hid (∀ m, m ≤ n → ∃ A' c', LR w (.slice A' m c') (L.take m) ∧ ∀ w', (Instr.sliceAt 29 (.slice A n cap) none (some (.int .i64 (m : Int))) none).run Tryd.prog w' = .ok (.slice A' m c') w') := Lib.hid (fun m hm => by
      have h := hv.upto m (by omega)
      rw [hn] at h
      exact h)
    rw [hn] at HV hc hl ⊢
    clear hv hN hn hr
    go_enter Tryd.func17, Tryd.ntmps17
    go_wp2_with fail
    go_loopg [6] n (fun kk kv wr => AnyLater w wr ∧ ∃ k : Nat, kk = n - k ∧ k < n ∧ kv = .int .i64 k ∧ rowG y L (n - k) k = (r1, r2))
    case atStart => exact ⟨AnyLater.refl w, 0, by omega, by omega, rfl, HR.out⟩
    case round =>
      obtain ⟨a_wr, k, hk, hkn, rfl, hrr⟩ := hrel
      have HA := Lib.hid a_wr
      have HRR := Lib.hid hrr
      have hx := sumL_in (L.take k)
      rw [List.length_take, HL.out, Nat.min_eq_left (Nat.le_of_lt hkn)] at hx
      obtain ⟨x, hxx⟩ : ∃ x, sumL (L.take k) = x := ⟨_, rfl⟩
      have HXX := Lib.hid hxx
      obtain ⟨A4, c4, hv4, hcut4⟩ := HU.out k (Nat.le_of_lt hkn)
      have HS4 := Lib.hid (fun w2 (a : AnyLater w w2) => xsum_any (.slice A4 k c4) (L.take k) w2 x hxx (hv4.later a) (HNN.out.take k) (by rw [List.length_take]; omega))
      by_cases hlt : k + 1 < n
      · have lk : k < L.length := by rw [HL.out]; omega
        have d0 : (k : Int) < (n : Int) - 1 := by omega
        obtain ⟨z, hz⟩ : ∃ z, sumL (L.take (k + 1)) = z := ⟨_, rfl⟩
        have HZ := Lib.hid hz
        obtain ⟨A5, c5, hv5, hcut5⟩ := HU.out (k + 1) (by omega)
        have hcut6 : ∀ w', (Instr.sliceAt 29 (.slice A n cap) none (some (.int .i64 ((k : Int) + 1))) none).run Tryd.prog w' = .ok (.slice A5 (k + 1) c5) w' := hcut5
        have HS5 := Lib.hid (fun w2 (a : AnyLater w w2) => xsum_any (.slice A5 (k + 1) c5) (L.take (k + 1)) w2 z hz (hv5.later a) (HNN.out.take (k + 1)) (by rw [List.length_take]; omega))
        clear hxx hrr hz hv4 hv5 hx hcut5
        by_cases hyq : z ≤ y
        · have d1 : decide (y < z) = false := decide_eq_false (by omega)
          have HG : Hid (rowG y L (n - (k + 1)) (k + 1) = (r1, r2)) := Lib.hid (by
            rw [← HRR.out, ← HL.out]
            exact (rowG_go (by rw [HL.out]; exact hlt) (by rw [HZ.out]; exact hyq)).symm)
          go_wp2_with fail
          refine (HS5.out _ HA.out).mono ?_
          rintro e w2 ⟨rfl, b_w2⟩
          have HB := Lib.hid (HA.out.trans b_w2)
          clear b_w2 a_wr
          go_wp2_with fail
          go_roundg (n - (k + 1))
          case measure => omega
          case rel => exact ⟨HB.out, k + 1, rfl, hlt, by go_num, HG.out⟩
        · have HG : Hid ((k : Int) = r1 ∧ x = r2) := Lib.hid (by
            have h := HRR.out
            rw [rowG_end (.inr (by rw [HZ.out]; omega)), HXX.out] at h
            cases h; exact ⟨rfl, rfl⟩)
          have d1 : decide (y < z) = true := decide_eq_true (by omega)
          go_wp2_with fail
          refine (HS5.out _ HA.out).mono ?_
          rintro e w2 ⟨rfl, b_w2⟩
          have HB := Lib.hid (HA.out.trans b_w2)
          clear b_w2 a_wr
          go_wp2_with fail
          refine (HS4.out _ HB.out).mono ?_
          rintro e w3 ⟨rfl, b_w3⟩
          have HB3 := Lib.hid (HB.out.trans b_w3)
          clear b_w3
          go_wp2_with fail
          refine bodyPost_ret (v := .tuple #[.int .i64 r1, .int .i64 r2]) (by rw [← HG.out.1, ← HG.out.2]; simp [results, Tryd.results17, go_sem]) rfl ⟨rfl, HB3.out⟩
      · have d0 : decide ((k : Int) < (n : Int) - 1) = false := decide_eq_false (by omega)
        have HG : Hid ((k : Int) = r1 ∧ x = r2) := Lib.hid (by
          have h := HRR.out
          rw [rowG_end (.inl (by rw [HL.out]; omega)), HXX.out] at h
          cases h; exact ⟨rfl, rfl⟩)
        have e1 : (n : Int) - 1 = (k : Int) := by omega
        clear a_wr hrr hx hxx hv4
        go_wp2_with fail
        refine (HS4.out _ HA.out).mono ?_
        rintro e w3 ⟨rfl, b_w3⟩
        have HB3 := Lib.hid (HA.out.trans b_w3)
        clear b_w3
        go_wp2_with fail
        refine bodyPost_ret (v := .tuple #[.int .i64 r1, .int .i64 r2]) (by rw [← HG.out.1, ← HG.out.2]; simp [results, Tryd.results17, go_sem, e1]) rfl ⟨rfl, HB3.out⟩
end Go.Proofs.YteplnejnhgmfiaaDoor
