/- wrap: the document's Rows, by contract. -/
import Derived.Test.YteplnejnhgmfiaaDoorWrpC
namespace Go.Proofs.YteplnejnhgmfiaaDoor
set_option linter.unusedSimpArgs false
set_option linter.unusedVariables false
set_option linter.unusedSectionVars false
open Go.RowKit

set_option maxRecDepth 100000 in
set_option maxHeartbeats 1600000 in
theorem xrows_any (v : Value) (l : Cels) (x : Int) (w : World) (hv : FR celF w v l) (hN : CelsOk l) (hl : l.length ≤ 4000) (hx : I64s x) :
    Calls Tryd.prog 33 #[v, .int .i64 x] w fun e w' => ∃ u, e = .returned u ∧ AnyLater w w' ∧ OF rowF 59 w' w.heap.size u (rowsW l x) := by
  obtain ⟨A, cap, rfl, hc⟩ := hv.form
  have HE := Lib.hid (fun f t (h : f ≤ t) (k : t ≤ l.length) w' (a : AnyLater w w') => xend_any (.slice A l.length cap) l f t w' (hv.later a) hN hl h k)
  have HX := Lib.hid (fun f (h : f ≤ l.length) w' (a : AnyLater w w') => xnext_any (.slice A l.length cap) l f x w' (hv.later a) hN hl h hx)
  obtain ⟨m, hm⟩ : ∃ m, max x 1 = m := ⟨_, rfl⟩
  obtain ⟨ALL, hall⟩ : ∃ ALL, rowsW l x = ALL := ⟨_, rfl⟩
  have HALL : Hid (wRows l m (l.length + 1) 0 = ALL) := Lib.hid (by rw [← hall, ← hm]; rfl)
  rw [hm] at HX
  rw [hall]
  obtain ⟨n, hn⟩ : ∃ n, l.length = n := ⟨_, rfl⟩
  have HL := Lib.hid hn
  rw [hn] at HALL HE HX hc hl ⊢
  obtain ⟨hx1, hx2⟩ := hx
  have HA0 := Lib.hid ((AnyLater.refl w).alloc (.cells #[] 59))
  have HO0 : Hid (OF rowF 59 (w.alloc (.cells #[] 59)) w.heap.size (.slice (some ⟨w.heap.size, 0, none⟩) 0 0) []) := Lib.hid (OF.empty (Nat.le_refl _) (heap_new rfl))
  clear hv hN hn hm hall
  go_enter Tryd.func33, Tryd.ntmps33
  go_wp2_with fail
  go_loopg [5, 6, 7] (n + 1) (fun kk ov av iv wr => AnyLater w wr ∧ ∃ (i a : Nat) (D : Rws), kk = n + 1 - i ∧ i ≤ n + 1 ∧ a ≤ n ∧ iv = .int .i64 i ∧ av = .int .i64 a ∧ D.length ≤ i ∧ OF rowF 59 wr w.heap.size ov D ∧ D ++ (if 0 < i ∧ n ≤ a then [] else wRows l m (n + 1 - i) a) = ALL)
  case atStart => exact ⟨HA0.out, 0, 0, [], by omega, by omega, by omega, rfl, rfl, by simp, HO0.out, by rw [if_neg (by omega)]; exact HALL.out⟩
  case round =>
    obtain ⟨a_wr, i, a, D, hk, hi, ha, rfl, rfl, hD, ho, hall⟩ := hrel
    have HA := Lib.hid a_wr
    have HO := Lib.hid ho
    have HALL2 := Lib.hid hall
    obtain ⟨A3, c3, rfl, h3⟩ := ho.form
    clear ho hall a_wr
    by_cases hdone : 0 < i ∧ n ≤ a
    · obtain ⟨hi0, han⟩ := hdone
      have hR : D = ALL := by have h := HALL2.out; rwa [if_pos ⟨hi0, han⟩, List.append_nil] at h
      have HR := Lib.hid hR
      clear hR
      by_cases hlt : i ≤ n
      · have e1 : (i : Int) ≤ (n : Int) := by omega
        have e2 : decide (0 < (i : Int)) = true := decide_eq_true (by omega)
        have e3 : decide ((n : Int) ≤ (a : Int)) = true := decide_eq_true (by omega)
        go_wp2_with fail
        go_ret
        exact ⟨_, rfl, HA.out, by have := HO.out; rw [HR.out] at this ⊢; exact this⟩
      · have e1 : decide ((i : Int) ≤ (n : Int)) = false := decide_eq_false (by omega)
        go_wp2_with fail
        go_ret
        exact ⟨_, rfl, HA.out, by have := HO.out; rw [HR.out] at this ⊢; exact this⟩
    · by_cases hlt : i ≤ n
      · have e1 : (i : Int) ≤ (n : Int) := by omega
        obtain ⟨N, hN2⟩ : ∃ N, wNext l m a = N := ⟨_, rfl⟩
        have hNb := wNext_in (l := l) (W := m) (f := a) (by rw [HL.out]; exact ha)
        rw [hN2, HL.out] at hNb
        obtain ⟨n1, n2, -⟩ := hNb
        have HXN := Lib.hid (HX.out a ha)
        have HEN := Lib.hid (HE.out a N n1 n2)
        rw [hN2] at HXN
        obtain ⟨z, hz⟩ : ∃ z, wEnd l a N = z := ⟨_, rfl⟩
        rw [hz] at HEN
        have HROW : Hid ((D ++ [((a : Int), (N : Int), z)]) ++ (if 0 < i + 1 ∧ n ≤ N then [] else wRows l m (n + 1 - (i + 1)) N) = ALL) := Lib.hid (by
          have h := HALL2.out
          rw [if_neg hdone, show n + 1 - i = (n + 1 - (i + 1)) + 1 by omega, wRows_succ, hN2, hz, HL.out] at h
          rw [← h, List.append_assoc]
          by_cases q : n ≤ N
          · rw [if_pos ⟨by omega, q⟩, if_pos q]; rfl
          · rw [if_neg (by omega), if_neg q]; rfl)
        have hg : decide (0 < i) = false ∨ decide (0 < i) = true ∧ decide (n ≤ a) = false := by
          by_cases q : 0 < i
          · exact .inr ⟨decide_eq_true (by omega), decide_eq_false (by omega)⟩
          · exact .inl (decide_eq_false (by omega))
        clear hdone hN2 hz
        rcases hg with e2 | ⟨e2, e3⟩
        all_goals
          go_wp2_with fail
          refine (HXN.out _ HA.out).mono ?_
          rintro e w4 ⟨rfl, b4⟩
          have H4 := Lib.hid (And.intro (HA.out.trans b4) (HO.out.later b4))
          clear b4
          go_wp2_with fail
          refine (HEN.out _ H4.out.1).mono ?_
          rintro e w5 ⟨rfl, b5⟩
          have H5 := Lib.hid (And.intro (H4.out.1.trans b5) (H4.out.2.later b5))
          clear b5
          obtain ⟨u2, w6, k1, k2, k3, -⟩ := appF1 rowFT ((a : Int), (N : Int), z) (cs := #[.int .i64 (a : Int), .int .i64 (N : Int), .int .i64 z]) rfl H5.out.2 H5.out.1.below.size (by omega)
          have K1 := Lib.hid k1
          have K2 := Lib.hid k2
          have K3 := Lib.hid (k3 w (Nat.le_refl _) H5.out.1)
          clear k1 k2 k3
          go_wp2_with (at_builtin; refine Lib.wpList_append_run _ rfl _ _ _ _ rfl _ _ rfl rfl _ _ K1.out ?_)
          go_roundg (n + 1 - (i + 1))
          case measure => omega
          case rel => exact ⟨K3.out, i + 1, N, D ++ [((a : Int), (N : Int), z)], rfl, by omega, n2, by go_num, rfl, by rw [List.length_append]; simp; omega, K2.out, HROW.out⟩
      · have e1 : decide ((i : Int) ≤ (n : Int)) = false := decide_eq_false (by omega)
        have hR : D = ALL := by have h := HALL2.out; rwa [if_neg hdone, show n + 1 - i = 0 by omega, wRows, List.append_nil] at h
        have HR := Lib.hid hR
        clear hR
        go_wp2_with fail
        go_ret
        exact ⟨_, rfl, HA.out, by have := HO.out; rw [HR.out] at this ⊢; exact this⟩
end Go.Proofs.YteplnejnhgmfiaaDoor
