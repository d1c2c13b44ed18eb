/- frame: does of any act; Like, whether a frame has the pixels of another; lives. -/
import Derived.Test.YtfliniknaonieaaFrameI
import Derived.Deep.RegionWith
namespace Go.Proofs.Ytfliniknaonieaa
set_option linter.unusedSimpArgs false
set_option linter.unusedVariables false
set_option linter.unusedSectionVars false
open Go.RowKit

section
variable {Fr : World → Nat → FM → (Nat → Prop) → Prop}
theorem does_any (F : FSays Fr) (W0 w : World) (hW : AnyLater W0 w) (a p : Nat) (m : FM) (S T : Nat → Prop) (hS0 : ∀ k, S k → W0.heap.size ≤ k) (hT0 : ∀ k, T k → W0.heap.size ≤ k) (A : AM) (h : Both Fr w a p m S T) (hA : A.Ok W0) :
    Calls Try.prog 13 #[ptr a, ptr p, actV A] w fun e w' => e = .returned (.bool true) ∧ Did Fr w a p m S T w' := by
  by_cases h1 : A.kind = 1
  · exact does_shift F W0 w a p m S T A h1 h hA
  · by_cases h2 : A.kind = 2
    · exact does_lay F W0 w hW a p m S T hS0 hT0 A h2 h hA
    · by_cases h3 : A.kind = 3
      · exact does_dots F W0 w a p m S T A h3 h hA
      · exact does_fill F W0 w a p m S T A h1 h2 h3 h hA

/-! ### Like -/
set_option maxRecDepth 100000 in
set_option maxHeartbeats 6400000 in
theorem like_any (F : FSays Fr) (w : World) (a p : Nat) (m k : FM) (S T : Nat → Prop) (c : Bool) (hc : sameB m k = c) (hF : Fr w a m S) (hX : RX w p k T) (hs : Small m) (hok : m.Ok) (kw : k.w ≤ 5000) (kh : k.rows.length ≤ 5000) :
    Calls Try.prog 15 #[ptr a, ptr p] w fun e w' => e = .returned (.bool c) ∧ AnyLater w w' := by
  obtain ⟨vx, rs, hx⟩ := hX
  obtain ⟨Ax, capx, rfl⟩ := hx.len
  have HC := Lib.hid (And.intro True.intro (And.intro hF hs))
  have CS := Lib.hid (F.size hF hs)
  have HX := Lib.hid hx
  have HFL := Lib.hid F
  have HNo : Hid (¬ (m.w = k.w ∧ m.rows = k.rows) → false = c) := Lib.hid (fun h => by rw [← hc]; unfold sameB; exact (decide_eq_false h).symm)
  have HYes : Hid ((m.w = k.w ∧ m.rows = k.rows) → true = c) := Lib.hid (fun h => by rw [← hc]; unfold sameB; exact (decide_eq_true h).symm)
  obtain ⟨H, hH⟩ : ∃ H, m.rows.length = H := ⟨_, rfl⟩
  obtain ⟨W, hW⟩ : ∃ W, m.w = W := ⟨_, rfl⟩
  have HH := Lib.hid (And.intro hH hW)
  obtain ⟨sOk, sW, sH, _, _⟩ := hs
  rw [hH] at sH
  rw [hW] at sW
  clear F hF hx hc hok sOk
  have s0_w := HX.out.top
  simp only [hH, hW] at CS
  clear hH hW
  unfold ptr at *
  by_cases h1 : W = k.w
  · by_cases h2 : H = k.rows.length
    · have e1 : ((W : Int) != (k.w : Int)) = false := by rw [h1]; simp
      have e2 : ((H : Int) != (k.rows.length : Int)) = false := by rw [h2]; simp
      have HE := Lib.hid (And.intro h1 h2)
      have k1 : k.w ≤ 5000 := kw
      have hkl : Hid (k.rows.length = H) := Lib.hid h2.symm
      clear h1 h2
      go_enter Try.func15, Try.ntmps15
      go_wp2_with fail
      refine CS.out.mono ?_
      rintro e w1 ⟨rfl, b_w1⟩
      have s0_w1 := any_own b_w1 s0_w
      have r0_w1 := own_row s0_w1
      have HA1 := Lib.hid b_w1
      go_wp2_with fail
      go_loopg [7] H (fun kk yv wr => ∃ y : Nat, kk = H - y ∧ y ≤ H ∧ yv = .int .i64 y ∧ AnyLater w wr ∧ m.rows.take y = k.rows.take y)
      case atStart => exact ⟨0, by omega, by omega, rfl, HA1.out, by simp⟩
      case round =>
        obtain ⟨y, hk, hy, rfl, a_wr, hf⟩ := hrel
        have HT := Lib.hid hf
        have HA := Lib.hid a_wr
        clear r0_w1 s0_w1 hf
        by_cases hlt : y < H
        · have hx2 := HX.out.any a_wr
          obtain ⟨q, cap2, cur, hv2, sq, hq, hcur⟩ := hx2.outer (by rw [hkl.out]; omega)
          have hv3 : Value.slice Ax k.rows.length capx = .slice (some ⟨q, 0, none⟩) k.rows.length cap2 := hv2
          clear hv2
          obtain ⟨rfl, rfl⟩ : Ax = some ⟨q, 0, none⟩ ∧ capx = cap2 := by cases hv3; exact ⟨rfl, rfl⟩
          clear hv3
          have ly : y < rs.length := by rw [hx2.rows.len, hkl.out]; exact hlt
          have ly' : y < k.rows.length := by rw [hkl.out]; exact hlt
          have lm : y < m.rows.length := by rw [HH.out.1]; exact hlt
          obtain ⟨sg, hwc, hwl, cells, hg, hcells⟩ := hx2.rows.each y ly ly'
          have hcy := hcur y ly
          have s0_wr := hx2.top
          have r_p := own_row s0_wr
          have r_q := own_row hq
          have hRU : RU wr (.slice (some ⟨rs[y].1, 0, none⟩) k.w rs[y].2) k.rows[y] := ⟨some ⟨rs[y].1, 0, none⟩, rs[y].2, by rw [hwl], by rw [hwl]; exact hwc, fun _ => ⟨rs[y].1, 0, rfl, own_lt hg, fun x hx => by rw [own_row hg, Nat.zero_add]; exact hcells x hx⟩⟩
          have hln : lineM (y : Int) m = m.rows[y] := by
            unfold lineM
            rw [if_pos (by omega)]
            simp [lm]
          have HLn : Hid (∀ w', AnyLater wr w' → Calls Try.prog 18 #[ptr a, .int .i64 y] w' fun e w'' => ∃ v, e = .returned v ∧ AnyLater w' w'' ∧ RU w'' v m.rows[y]) := Lib.hid (fun w' hw => by
            have := HFL.out.line (y : Int) (HFL.out.later HC.out.2.1 (a_wr.trans hw)) HC.out.2.2 (by unfold I64; omega)
            rw [hln] at this
            exact this)
          have HEq : Hid (m.rows[y].length ≤ 100000) := Lib.hid (by rw [HC.out.2.2.1.wide y lm]; rw [HH.out.2]; omega)
          have HTk : Hid (m.rows[y] = k.rows[y] → m.rows.take (y + 1) = k.rows.take (y + 1)) := Lib.hid (fun e => by rw [List.take_succ_eq_append_getElem lm, List.take_succ_eq_append_getElem ly', HT.out, e])
          have HTn : Hid (m.rows[y] ≠ k.rows[y] → m.rows ≠ k.rows) := Lib.hid (fun h e => h (by simp only [e]))
          have C1 : Hid (∀ w', AnyLater wr w' → w'.cell? ⟨p, 1, none⟩ = some (.slice (some ⟨q, 0, none⟩) k.rows.length capx)) := Lib.hid (fun w' hw => cell_on hw (by rw [own_row s0_wr]; rfl))
          have hcy2 : wr.cell? ⟨q, y, none⟩ = some (rowV k.w rs[y]) := by rw [own_row hq]; exact hcy
          unfold rowV at hcy2 hcy
          have C2 : Hid (∀ w', AnyLater wr w' → w'.cell? ⟨q, y, none⟩ = some (.slice (some ⟨rs[y].1, 0, none⟩) k.w rs[y].2)) := Lib.hid (fun w' hw => cell_on hw hcy2)
          have HRU := Lib.hid (fun w' (hw : AnyLater wr w') => hRU.later hw)
          have iy : (y : Int) < (k.rows.length : Int) := by rw [hkl.out]; omega
          generalize rs[y] = e at *
          obtain ⟨g0, c0⟩ := e
          simp only at C2 HRU hcy
          clear hx2 hcur hq hg hcells hwl hwc hRU sq sg s0_wr hln hcy2
          generalize m.rows[y] = row at *
          generalize k.rows[y] = rowk at *
          cases hd : decide (row = rowk) with
          | true =>
            have HD := Lib.hid hd
            have HJ := Lib.hid (HTk.out (of_decide_eq_true hd))
            clear hd
            go_wp2_with fail
            go_region_with (first | (go_at_call 18; refine (HLn.out _ (by repeat' (first | with_reducible assumption | with_reducible exact AnyLater.refl _ | with_reducible apply AnyLater.later | with_reducible apply AnyLater.drewN | with_reducible apply AnyLater.drew | with_reducible apply AnyLater.alloc))).mono ?_; rintro e w2 ⟨v2, rfl, b_w2, hr2⟩; have a_w2 : AnyLater wr w2 := (AnyLater.drew (AnyLater.refl wr)).trans b_w2; have d1 := C1.out w2 a_w2; have d2 := C2.out w2 a_w2; have HR2 := Lib.hid hr2; clear hr2) | (go_at_call 17; refine (same_any _ _ row rowk _ true HD.out HR2.out (HRU.out _ a_w2) HEq.out).mono ?_; rintro e w3 ⟨rfl, b_w3⟩))
            all_goals
              go_wp2_with fail
              go_roundg (H - (y + 1))
              case measure => omega
              case rel => exact ⟨y + 1, rfl, by omega, by go_num, HA.out.trans (a_w2.trans b_w3), HJ.out⟩
          | false =>
            have HD := Lib.hid hd
            have HJ := Lib.hid (HNo.out (fun h => HTn.out (of_decide_eq_false hd) h.2))
            clear hd
            go_wp2_with fail
            go_region_with (first | (go_at_call 18; refine (HLn.out _ (by repeat' (first | with_reducible assumption | with_reducible exact AnyLater.refl _ | with_reducible apply AnyLater.later | with_reducible apply AnyLater.drewN | with_reducible apply AnyLater.drew | with_reducible apply AnyLater.alloc))).mono ?_; rintro e w2 ⟨v2, rfl, b_w2, hr2⟩; have a_w2 : AnyLater wr w2 := (AnyLater.drew (AnyLater.refl wr)).trans b_w2; have d1 := C1.out w2 a_w2; have d2 := C2.out w2 a_w2; have HR2 := Lib.hid hr2; clear hr2) | (go_at_call 17; refine (same_any _ _ row rowk _ false HD.out HR2.out (HRU.out _ a_w2) HEq.out).mono ?_; rintro e w3 ⟨rfl, b_w3⟩))
            all_goals
              go_wp2_with fail
              go_ret
              exact ⟨ret_bool HJ.out, HA.out.trans (a_w2.trans b_w3)⟩
        · obtain rfl : y = H := by omega
          have HJ := Lib.hid (HYes.out ⟨by rw [HH.out.2]; exact HE.out.1, by
            have := HT.out
            rwa [List.take_of_length_le (Nat.le_of_eq HH.out.1), List.take_of_length_le (Nat.le_of_eq hkl.out)] at this⟩)
          go_wp2_with fail
          go_ret
          exact ⟨ret_bool HJ.out, HA.out⟩
    · have e1 : ((W : Int) != (k.w : Int)) = false := by rw [h1]; simp
      have e2 : ((H : Int) != (k.rows.length : Int)) = true := by simp; omega
      have HJ := Lib.hid (HNo.out (fun h => h2 (by rw [← HH.out.1, h.2])))
      clear h1 h2
      go_enter Try.func15, Try.ntmps15
      go_wp2_with fail
      refine CS.out.mono ?_
      rintro e w1 ⟨rfl, b_w1⟩
      have r0_w1 := own_row (any_own b_w1 s0_w)
      go_wp2_with fail
      go_ret
      exact ⟨ret_bool HJ.out, b_w1⟩
  · have e1 : ((W : Int) != (k.w : Int)) = true := by simp; omega
    have HJ := Lib.hid (HNo.out (fun h => h1 (by rw [← HH.out.2]; exact h.1)))
    clear h1
    go_enter Try.func15, Try.ntmps15
    go_wp2_with fail
    refine CS.out.mono ?_
    rintro e w1 ⟨rfl, b_w1⟩
    have r0_w1 := own_row (any_own b_w1 s0_w)
    go_wp2_with fail
    go_ret
    exact ⟨ret_bool HJ.out, b_w1⟩

/-! ### lives -/
theorem small_new (W H : Nat) (hw : W ≤ 4096) (hh : H ≤ 4096) : Small (newM W H) := ⟨newM_ok W H, hw, by simpa [newM] using hh, Int.le_refl _, by show (0 : Int) ≤ 1000000000000; decide⟩
def liveR : Rt := ⟨1, 0, 5, 1⟩
theorem live_at1 : atM 2 0 (fillM liveR 7 (newM 3 2)) = 7 := by decide
theorem live_at2 : atM 0 0 (fillM liveR 7 (newM 3 2)) = 0 := by decide
theorem live_cnt : cntA liveR (newM 3 2).w (newM 3 2).rows.length = 2 := by decide
set_option maxRecDepth 100000 in
set_option maxHeartbeats 3200000 in
theorem lives_any (F : FSays Fr) (w : World) : Calls Try.prog 11 #[] w fun e w' => e = .returned (.bool true) ∧ AnyLater w w' := by
  have HF := Lib.hid F
  have C := Lib.hid (F.new 3 2 w (by decide) (by decide))
  clear F
  go_enter Try.func11, Try.ntmps11
  go_wp2_with fail
  refine C.out.mono ?_
  rintro e w1 ⟨a, S, rfl, b_w1, f1, hS⟩
  have C2 := Lib.hid (HF.out.fill liveR 7 2 live_cnt f1 (small_new 3 2 (by decide) (by decide)) ⟨by decide, by decide, by decide, by decide⟩ (by omega))
  have HS := Lib.hid hS
  clear hS f1
  unfold rtV liveR ptr at C2
  unfold ptr
  go_wp2_with fail
  refine C2.out.mono ?_
  rintro e w2 ⟨rfl, k2, S2, f2, g2⟩
  have a_w2 := k2.any b_w1 HS.out
  have hsm : Small (fillM liveR 7 (newM 3 2)) := ⟨fillM_ok (newM_ok 3 2), by decide, by decide, by decide, by decide⟩
  have C3 := Lib.hid (HF.out.at_ 2 0 7 live_at1 f2 hsm (by unfold I64; omega) (by unfold I64; omega))
  have C4 := Lib.hid (fun w' (h : AnyLater w2 w') => HF.out.at_ 0 0 0 live_at2 (HF.out.later f2 h) hsm (by unfold I64; omega) (by unfold I64; omega))
  clear f2 g2 k2
  unfold ptr at C3 C4
  go_wp2_with fail
  refine C3.out.mono ?_
  rintro e w3 ⟨rfl, b_w3⟩
  go_wp2_with fail
  refine (C4.out w3 b_w3).mono ?_
  rintro e w4 ⟨rfl, b_w4⟩
  go_wp2_with fail
  go_ret
  exact ⟨rfl, a_w2.trans (b_w3.trans b_w4)⟩
end
end Go.Proofs.Ytfliniknaonieaa
