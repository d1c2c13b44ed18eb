/- utf: where runes begin, told by the program and by the document: by contract. -/
import Derived.Test.YtimplngemjdodaaDoorUtfF
import Derived.Test.YtimplngemjdodaaDoorUtfH
namespace Go.Proofs.YtimplngemjdodaaDoor
set_option linter.unusedSimpArgs false
set_option linter.unusedVariables false
set_option linter.unusedSectionVars false
open Go.RowKit

theorem it_succ (l : List Int) (j : Nat) : it l (j + 1) = it l j + (decU (l.drop (it l j))).2 := rfl
set_option maxRecDepth 100000 in
set_option maxHeartbeats 3200000 in
theorem refStarts_any (v : Value) (l : List Int) (c : Nat) (w : World) (hv : RU8 w v l) (hb : Bytes l) (hl : l.length ≤ 1000) (hc : Cnt l c) :
    Calls Tryd.prog 30 #[v] w fun e w' => ∃ u, e = .returned u ∧ AnyLater w w' ∧ ON .i64 3 w' w.heap.size u (stU l c) := by
  have HV := Lib.hid hv
  obtain ⟨A, cap, rfl, hcap⟩ := hv.form
  obtain ⟨L, hL⟩ : ∃ L, l.length = L := ⟨_, rfl⟩
  have HLL := Lib.hid hL
  have HB := Lib.hid hb
  have HC := Lib.hid hc
  have hcl := hc.le hb
  have HLE := Lib.hid (fun j => it_le hb j)
  rw [hL] at hl hcap hcl HLE HV ⊢
  clear hv hL hb hc
  go_enter Tryd.func30, Tryd.ntmps30
  go_wp2_with fail
  go_loopg [3, 4, 5] L (fun kk sv av iv wr => AnyLater w wr ∧ ∃ i j : Nat, kk = L - i ∧ i ≤ L ∧ j ≤ c ∧ i ≤ it l j ∧ iv = .int .i64 i ∧ av = .int .i64 (it l j) ∧ ON .i64 3 wr w.heap.size sv (stU l j))
  case atStart => exact ⟨(AnyLater.refl w).alloc _, 0, 0, by omega, by omega, by omega, by omega, rfl, rfl, by rw [stU_zero]; exact ON.one (Nat.le_refl _) (heap_new rfl)⟩
  case round =>
    obtain ⟨a_wr, i, j, hk, hi, hj, hij, rfl, rfl, ho⟩ := hrel
    have HA := Lib.hid a_wr
    have HO := Lib.hid ho
    have hpl := HLE.out j
    obtain ⟨A3, c3, rfl, h3⟩ := ho.form
    rw [stU_len] at HO h3 ⊢
    obtain ⟨p, hp⟩ : ∃ p, it l j = p := ⟨_, rfl⟩
    have HP := Lib.hid hp
    rw [hp] at hpl hij ⊢
    clear ho
    by_cases hiL : i < L
    · by_cases hip : i < p
      · clear a_wr hp
        go_wp2_with fail
        go_roundg (L - (i + 1))
        case measure => omega
        case rel => exact ⟨HA.out, i + 1, j, rfl, by omega, by omega, by rw [HP.out]; omega, by go_num, by rw [HP.out], HO.out⟩
      · obtain rfl : i = p := by omega
        have hjc : j < c := (HC.out.end_iff hj).1 (by rw [HLL.out, hp]; exact hiL)
        obtain ⟨r, k, hdec⟩ : ∃ r k, decU (l.drop i) = (r, k) := ⟨_, _, rfl⟩
        obtain ⟨u, hu, hcut⟩ := HV.out.cut i (by rw [HLL.out]; omega)
        have hrk := dec_rune (HB.out.drop i)
        have hlk := dec_len (HB.out.drop i)
        have hne : l.drop i ≠ [] := by intro e; have := congrArg List.length e; rw [List.length_drop, HLL.out] at this; simp at this; omega
        rw [hdec, List.length_drop, HLL.out] at hlk
        rw [hdec] at hrk
        have hk0 := hlk.2.1 hne
        have hk4 := hlk.2.2
        have hk1 := hlk.1
        have HIT : Hid (it l (j + 1) = i + k) := Lib.hid (by rw [it_succ, hp, hdec])
        have HD : Hid (Calls Tryd.prog 31 #[u] wr fun e w'' => e = .returned (.tuple #[.int .i32 r, .int .i64 (k : Int)]) ∧ AnyLater wr w'') := Lib.hid (refDec_any u (l.drop i) wr r k hdec (hu.later a_wr) (HB.out.drop i) (by rw [List.length_drop, HLL.out]; omega))
        simp only at hk4 hk1 hrk hk0
        clear hu hdec hlk a_wr hp hne
        go_wp2_with fail
        refine HD.out.mono ?_
        rintro e w3 ⟨rfl, b3⟩
        have ho3 := HO.out.later b3
        obtain ⟨u2, w4, k1, k2, k3⟩ := appI ((i : Int) + (k : Int)) ho3 (Nat.le_trans HA.out.below.size b3.below.size) (by rw [stU_len]; omega)
        have K1 := Lib.hid k1
        have K2 : Hid (ON .i64 3 w4 w.heap.size u2 (stU l (j + 1))) := Lib.hid (by rw [stU_succ, HIT.out, Int.natCast_add]; exact k2)
        have K3 := Lib.hid (k3 w (Nat.le_refl _) (HA.out.trans b3))
        clear k1 k2 k3 ho3 b3
        go_wp2_with (at_builtin; refine Lib.wpList_append_run _ rfl _ _ _ _ rfl _ _ rfl rfl _ _ K1.out ?_)
        go_roundg (L - (i + 1))
        case measure => omega
        case rel => exact ⟨K3.out, i + 1, j + 1, rfl, by omega, by omega, by rw [HIT.out]; omega, by go_num, by rw [HIT.out, Int.natCast_add], K2.out⟩
    · obtain rfl : i = L := by omega
      have hjc : j = c := by
        rcases Nat.lt_or_ge j c with h | h
        · have := HC.out.lt j h; rw [HP.out, HLL.out] at this; omega
        · omega
      subst hjc
      clear a_wr hp
      go_wp2_with fail
      go_ret
      exact ⟨_, rfl, HA.out, HO.out⟩
end Go.Proofs.YtimplngemjdodaaDoor
