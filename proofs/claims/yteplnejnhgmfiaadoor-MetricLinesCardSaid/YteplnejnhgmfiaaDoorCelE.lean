/- cells: the document's Of and Same; the program's Bytes: by contract. -/
import Derived.Test.YteplnejnhgmfiaaDoorCelD
import Derived.Test.YteplnejnhgmfiaaDoorUtfsA
namespace Go.Proofs.YteplnejnhgmfiaaDoor
set_option linter.unusedSimpArgs false
set_option linter.unusedVariables false
set_option linter.unusedSectionVars false
open Go.RowKit

/-- the style of the byte p of a line that begins at f, as the document tells it -/
def stA (T : List Int) (f : Int) (p : Nat) : Int := if 0 ≤ f ∧ f ≤ 16777216 then T.getD (f.toNat + p) 0 else 0
theorem stA_part {rl : Runs} (h : (stylesR rl).length ≤ 16777216) (f : Int) {n p : Nat} (hp : p < n) : (styD rl f n).getD p 0 = stA (stylesR rl) f p := by
  unfold styD stA
  split
  · rename_i hf
    rw [sR_small h]
    generalize stylesR rl = T
    obtain ⟨F, rfl⟩ := Int.eq_ofNat_of_zero_le hf.1
    unfold partL clampZ
    rw [List.getD_eq_getElem?_getD, List.getD_eq_getElem?_getD, List.getElem?_drop]
    simp only [Int.ofNat_eq_natCast, Int.toNat_natCast]
    rw [show ((F : Int) + (n : Int)).toNat = F + n by omega]
    by_cases q : F ≤ T.length
    · rw [Nat.min_eq_left q]
      by_cases q2 : F + p < T.length
      · rw [List.getElem?_take_of_lt (by omega)]
      · rw [List.getElem?_eq_none (by rw [List.length_take]; omega), List.getElem?_eq_none (by omega)]
    · rw [List.getElem?_eq_none (by rw [List.length_take]; omega), List.getElem?_eq_none (by omega)]
  · rfl
def NumsI (T : List Int) : Prop := ∀ s ∈ T, I64s s
theorem stA_in {T : List Int} (h : NumsI T) (f : Int) (p : Nat) : I64s (stA T f p) := by
  unfold stA
  split
  · rw [List.getD_eq_getElem?_getD]
    rcases hq : T[f.toNat + p]? with _ | x
    · constructor <;> simp
    · exact h x (List.mem_of_getElem? hq)
  · constructor <;> omega

/-- an append onto a row of cells leaves a row of another type -/
theorem owns_grown {B C : Nat} {e : TypeId} {size : Nat} {w w2 : World} {v vc : Value} {n : Nat} {xs : List Value} {l : Cels} {cs : Array Value} (h : w.ownsRow B e size v n xs) (hne : e ≠ 63) (o : OF celF 63 w C vc l) (hg : (w.alloc (.cells cs 63)).grownBy w2 vc.ownBlock) : w2.ownsRow B e size v n xs := by
  have a1 : AnyLater w (w.alloc (.cells cs 63)) := (AnyLater.refl w).alloc _
  have o2 := o.later a1
  have h2 := owns_later a1 h
  refine ⟨h2.1, ?_⟩
  rcases h2.2 with k | ⟨g, cap, cur, h1, h2, h3, h4⟩
  · exact .inl k
  · exact .inr ⟨g, cap, cur, h1, h2, grown_block hg h3 (owns_ne o2 h3 hne), h4⟩

/-! ### the document's Of -/
set_option maxRecDepth 100000 in
set_option maxHeartbeats 1600000 in
theorem cxof_any (v vs : Value) (l T : List Int) (f : Int) (c : Nat) (w : World) (hv : RU8 w v l) (hb : Bytes l) (hl : l.length ≤ 200) (hc : Cnt l c) (hs : RI w vs T) (hT : T.length ≤ 100000) (hf : I64s f) :
    Calls Tryd.prog 32 #[v, vs, .int .i64 f] w fun e w' => ∃ u, e = .returned u ∧ AnyLater w w' ∧ OF celF 63 w' w.heap.size u (celsU l (stA T f) c) := by
  have HV := Lib.hid hv
  obtain ⟨A, cap, rfl, hcap⟩ := hv.form
  have HVS := Lib.hid hs
  obtain ⟨A2, cap2, rfl, hcap2⟩ := hs.form
  have HB := Lib.hid hb
  have HC := Lib.hid hc
  have hcl := hc.le hb
  have HLE := Lib.hid (fun j => it_le hb j)
  have HST := Lib.hid (fun w1 (a : AnyLater w w1) => refStarts_any (.slice A l.length cap) l c w1 (HV.out.later a) hb (by omega) hc)
  obtain ⟨L, hL⟩ : ∃ L, l.length = L := ⟨_, rfl⟩
  have HLL := Lib.hid hL
  obtain ⟨M, hM⟩ : ∃ M, T.length = M := ⟨_, rfl⟩
  have HMM := Lib.hid hM
  rw [hL] at hl hcap hcl HLE HV HST ⊢
  rw [hM] at hT hcap2 HVS ⊢
  obtain ⟨sty, hsty⟩ : ∃ sty : Nat → Int, stA T f = sty := ⟨_, rfl⟩
  have HSTY : Hid (∀ p, stA T f p = sty p) := Lib.hid (fun p => by rw [← hsty])
  rw [hsty]
  obtain ⟨f1, f2⟩ := hf
  have HA0 := Lib.hid ((AnyLater.refl w).alloc (.cells #[] 63))
  have HO0 : Hid (OF celF 63 (w.alloc (.cells #[] 63)) w.heap.size (.slice (some ⟨w.heap.size, 0, none⟩) 0 0) []) := Lib.hid (OF.empty (Nat.le_refl _) (heap_new rfl))
  clear hv hL hb hc hM hsty hs
  go_enter Tryd.func32, Tryd.ntmps32
  go_wp2_with fail
  refine (HST.out _ HA0.out).mono ?_
  rintro e w1 ⟨u1, rfl, b1, o1⟩
  have H1 := Lib.hid (And.intro (HA0.out.trans b1) (And.intro (HO0.out.later b1) (ON.wide HA0.out.below.size o1)))
  obtain ⟨A8, c8, rfl, h8⟩ := o1.form
  rw [stU_len] at H1 h8 ⊢
  clear b1 o1
  go_wp2_with fail
  go_loopg [7, 9] c (fun kk ov iv wr => AnyLater w wr ∧ ON .i64 3 wr w.heap.size (.slice A8 (c + 1) c8) (stU l c) ∧ ∃ j : Nat, kk = c - j ∧ j ≤ c ∧ iv = .int .i64 j ∧ OF celF 63 wr w.heap.size ov (celsU l sty j))
  case atStart => exact ⟨H1.out.1, H1.out.2.2, 0, by omega, by omega, rfl, H1.out.2.1⟩
  case round =>
    obtain ⟨a_wr, hst, j, hk, hj, rfl, ho⟩ := hrel
    have HA := Lib.hid a_wr
    have HSR := Lib.hid hst
    have HO := Lib.hid ho
    obtain ⟨A3, c3, rfl, h3⟩ := ho.form
    rw [celsU_length] at HO h3 ⊢
    clear ho
    by_cases hlt : j < c
    · have i0 : (j : Int) + 1 < (c : Int) + 1 := by omega
      obtain ⟨p, hp2⟩ : ∃ p, it l j = p := ⟨_, rfl⟩
      have HPP := Lib.hid hp2
      have hpl := HLE.out j
      rw [hp2] at hpl
      obtain ⟨g8, c8', cur8, e8, hB8, hb8, -, -, -, k8⟩ := ON.at hst (by rw [stU_len]; omega)
      rw [stU_len] at e8
      cases e8
      have d8 : wr.cell? ⟨g8, j, none⟩ = some (.int .i64 (p : Int)) := by
        rw [own_row hb8, k8 j (by rw [stU_len]; omega), stU_get, hp2]
      have hb8r : g8 < wr.heap.size := own_lt hb8
      obtain ⟨r, k, hdec⟩ : ∃ r k, decU (l.drop p) = (r, k) := ⟨_, _, rfl⟩
      obtain ⟨u, hu, hcut⟩ := HV.out.cut p (by rw [HLL.out]; omega)
      have hrk := dec_rune (HB.out.drop p)
      have hlk := dec_len (HB.out.drop p)
      rw [hdec, List.length_drop, HLL.out] at hlk
      rw [hdec] at hrk
      have hk4 := hlk.2.2
      have hk1 := hlk.1
      have HD : Hid (Calls Tryd.prog 57 #[u] wr fun e w'' => e = .returned (.tuple #[.int .i32 r, .int .i64 (k : Int)]) ∧ AnyLater wr w'') := Lib.hid (refDec_any u (l.drop p) wr r k hdec (hu.later HA.out) (HB.out.drop p) (by rw [List.length_drop, HLL.out]; omega))
      have HCS : Hid (celsU l sty (j + 1) = celsU l sty j ++ [((p : Int), (k : Int), r, sty p)]) := Lib.hid (by rw [celsU_succ, hp2, hdec])
      simp only at hk4 hk1 hrk
      have HTS : Hid (∀ w1, AnyLater w w1 → ∀ q, q < M → ∃ b2 off2, A2 = some ⟨b2, off2, none⟩ ∧ b2 < w1.heap.size ∧ w1.cell? ⟨b2, off2 + q, none⟩ = some (.int .i64 (T.getD q 0))) := Lib.hid (fun w1 a q hq => by
        obtain ⟨A2', c2', e2, -, h2c⟩ := HVS.out
        rw [HMM.out] at e2
        cases e2
        obtain ⟨b2, off2, rfl, hb2, k2⟩ := h2c (by rw [HMM.out]; omega)
        refine ⟨b2, off2, rfl, Nat.lt_of_lt_of_le hb2 a.below.size, ?_⟩
        rw [a.below.cell hb2, k2 q (by rw [HMM.out]; exact hq), List.getD_eq_getElem?_getD, List.getElem?_eq_getElem (by rw [HMM.out]; exact hq)]
        rfl)
      have HSP := Lib.hid (HSTY.out p)
      obtain ⟨y, hy⟩ : ∃ y, sty p = y := ⟨_, rfl⟩
      rw [hy] at HCS HSP
      clear hu hdec hlk hp2 hy k8 hb8 hst
      go_wp2_with fail
      refine HD.out.mono ?_
      rintro e w4 ⟨rfl, b4⟩
      have d8' : w4.cell? ⟨g8, j, none⟩ = some (.int .i64 (p : Int)) := (b4.below.cell hb8r).trans d8
      have H4 := Lib.hid (And.intro (HA.out.trans b4) (And.intro (ON.later b4 HSR.out) (OF.later b4 HO.out)))
      clear b4 d8 a_wr hb8r
      obtain ⟨u2, w6, k1, k2, k3, k4⟩ := appF1 celFT ((p : Int), (k : Int), r, y) (cs := #[.int .i64 (p : Int), .int .i64 (k : Int), .int .i32 r, .int .i64 y]) rfl H4.out.2.2 H4.out.1.below.size (by rw [celsU_length]; omega)
      have K1 := Lib.hid k1
      have K3 := Lib.hid (k3 w (Nat.le_refl _) H4.out.1)
      have K4 : Hid (ON .i64 3 w6 w.heap.size (.slice (some ⟨g8, 0, none⟩) (c + 1) c8) (stU l c)) := Lib.hid (owns_grown H4.out.2.1 (by decide) H4.out.2.2 k4)
      have K2 : Hid (OF celF 63 w6 w.heap.size u2 (celsU l sty (j + 1))) := Lib.hid (by rw [HCS.out]; exact k2)
      clear k1 k2 k3 k4
      by_cases q1 : f < 0
      · have e1 : decide (0 ≤ f) = false := decide_eq_false (by omega)
        obtain rfl : y = 0 := by rw [← HSP.out]; unfold stA; rw [if_neg (by omega)]
        go_wp2_with (at_builtin; refine Lib.wpList_append_run _ rfl _ _ _ _ rfl _ _ rfl rfl _ _ K1.out ?_)
        go_roundg (c - (j + 1))
        case measure => omega
        case rel => exact ⟨K3.out, K4.out, j + 1, rfl, by omega, by go_num, K2.out⟩
      · have e1 : 0 ≤ f := by omega
        by_cases q2 : 16777216 < f
        · have e2 : decide (f ≤ 16777216) = false := decide_eq_false (by omega)
          obtain rfl : y = 0 := by rw [← HSP.out]; unfold stA; rw [if_neg (by omega)]
          go_wp2_with (at_builtin; refine Lib.wpList_append_run _ rfl _ _ _ _ rfl _ _ rfl rfl _ _ K1.out ?_)
          go_roundg (c - (j + 1))
          case measure => omega
          case rel => exact ⟨K3.out, K4.out, j + 1, rfl, by omega, by go_num, K2.out⟩
        · have e2 : f ≤ 16777216 := by omega
          obtain ⟨F, rfl⟩ := Int.eq_ofNat_of_zero_le e1
          have HSP2 : Hid (T.getD (F + p) 0 = y) := Lib.hid (by rw [← HSP.out]; unfold stA; rw [if_pos ⟨e1, e2⟩]; rfl)
          simp only [Int.ofNat_eq_natCast] at *
          by_cases q3 : F + p < M
          · have e3 : (F : Int) + (p : Int) < (M : Int) := by omega
            obtain ⟨b2, off2, rfl, hb2, d2⟩ := HTS.out w4 H4.out.1 (F + p) q3
            rw [HSP2.out] at d2
            have e4 : ((F : Int) + (p : Int)).toNat = F + p := by omega
            go_wp2_with (at_builtin; refine Lib.wpList_append_run _ rfl _ _ _ _ rfl _ _ rfl rfl _ _ K1.out ?_)
            go_roundg (c - (j + 1))
            case measure => omega
            case rel => exact ⟨K3.out, K4.out, j + 1, rfl, by omega, by go_num, K2.out⟩
          · have e3 : decide ((F : Int) + (p : Int) < (M : Int)) = false := decide_eq_false (by omega)
            obtain rfl : y = 0 := by rw [← HSP2.out, List.getD_eq_getElem?_getD, List.getElem?_eq_none (by rw [HMM.out]; omega)]; rfl
            go_wp2_with (at_builtin; refine Lib.wpList_append_run _ rfl _ _ _ _ rfl _ _ rfl rfl _ _ K1.out ?_)
            go_roundg (c - (j + 1))
            case measure => omega
            case rel => exact ⟨K3.out, K4.out, j + 1, rfl, by omega, by go_num, K2.out⟩
    · obtain rfl : j = c := by omega
      have d0 : decide ((j : Int) + 1 < (j : Int) + 1) = false := decide_eq_false (by omega)
      clear a_wr hst
      go_wp2_with fail
      go_ret
      exact ⟨_, rfl, HA.out, HO.out⟩

/-! ### the document's Same -/
theorem cstood : Tryd.prog.stoodInHeld 63 = false := by kernel_rfl
theorem cfields : Tryd.prog.underlying 63 = some (.struct (Tryd.prog.fieldsOf 63)) := by kernel_rfl
theorem cguard : Tryd.prog.eqGuardType Tryd.prog.depth 63 = false := by kernel_rfl
theorem eqCel (a n r s a2 n2 r2 s2 : Int) (w : World) : (Op.equalIn 10000 63 (.agg #[.int .i64 a, .int .i64 n, .int .i32 r, .int .i64 s]) (.agg #[.int .i64 a2, .int .i64 n2, .int .i32 r2, .int .i64 s2])).run Tryd.prog w = .ok (decide ((a, n, r, s) = (a2, n2, r2, s2))) w := by
  rw [run_equalIn_agg w 9999 _ _ _ cfields cstood]
  by_cases h1 : a = a2
  · by_cases h2 : n = n2
    · by_cases h3 : r = r2
      · by_cases h4 : s = s2
        · simp [go_sem, h1, h2, h3, h4]
        · simp [go_sem, h1, h2, h3, h4]
      · simp [go_sem, h1, h2, h3]
    · simp [go_sem, h1, h2]
  · simp [go_sem, h1]
theorem neqCel (a n r s a2 n2 r2 s2 : Int) (w : World) : (binOp .neq 63 (.agg #[.int .i64 a, .int .i64 n, .int .i32 r, .int .i64 s]) (.agg #[.int .i64 a2, .int .i64 n2, .int .i32 r2, .int .i64 s2])).run Tryd.prog w = .ok (.bool (!(decide ((a, n, r, s) = (a2, n2, r2, s2))))) w := by
  rw [run_neq_struct, eqCel]; rfl
set_option maxRecDepth 100000 in
set_option maxHeartbeats 1600000 in
/-- Same of two lists of cells that are one -/
theorem csame_yes (v v2 : Value) (l : Cels) (w : World) (h : FR celF w v l) (h2 : FR celF w v2 l) (hn : l.length ≤ 100000) :
    Calls Tryd.prog 31 #[v, v2] w fun e w' => e = .returned (.bool true) ∧ AnyLater w w' := by
  obtain ⟨A, cap, rfl, hc⟩ := h.form
  obtain ⟨A2, cap2, rfl, hc2⟩ := h2.form
  have H := Lib.hid (And.intro h h2)
  obtain ⟨n, hl⟩ : ∃ n, l.length = n := ⟨_, rfl⟩
  have HL := Lib.hid hl
  rw [hl] at H hc hc2 hn ⊢
  have gb := cguard
  have nb := neqCel
  clear h h2 hl
  go_enter Tryd.func31, Tryd.ntmps31
  go_wp2_with fail
  go_loopg [5] n (fun k i wr => AnyLater w wr ∧ ∃ j : Nat, k = n - j ∧ j ≤ n ∧ i = .int .i64 j)
  case atStart => exact ⟨AnyLater.refl _, 0, by omega, by omega, rfl⟩
  case round =>
    obtain ⟨a_wr, j, hk, hj, rfl⟩ := hrel
    have HA := Lib.hid a_wr
    by_cases hlt : j < n
    · have lj : j < l.length := by rw [HL.out]; exact hlt
      have i1 : (j : Int) < (n : Int) := by omega
      obtain ⟨b, off, rfl, hb, c0, c1, c2, c3⟩ := celAt (H.out.1.later a_wr) j lj
      obtain ⟨b2, off2, rfl, hb2, e0, e1, e2, e3⟩ := celAt (H.out.2.later a_wr) j lj
      generalize l[j] = x at *
      obtain ⟨ca, cn, cr, cs⟩ := x
      simp only at c0 c1 c2 c3 e0 e1 e2 e3
      have hd : decide ((ca, cn, cr, cs) = (ca, cn, cr, cs)) = true := decide_eq_true rfl
      clear a_wr
      go_wp2_with fail
      go_quiet (fail)
      go_wp2_with fail
      go_roundg (n - (j + 1))
      case measure => omega
      case rel => exact ⟨HA.out.drewN _, j + 1, rfl, hlt, by go_num⟩
    · obtain rfl : j = n := by omega
      clear a_wr
      go_wp2_with fail
      go_ret
      exact ⟨rfl, HA.out⟩
end Go.Proofs.YteplnejnhgmfiaaDoor
