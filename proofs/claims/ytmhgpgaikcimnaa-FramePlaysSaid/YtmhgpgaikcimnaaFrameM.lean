/- frame: FramePlays: which pixels a frame has behind any calls, and how many were written. -/
import Derived.Test.YtmhgpgaikcimnaaFrameK
import Derived.Test.YtmhgpgaikcimnaaLoose
import Derived.Deep.CutBlock
import Derived.Deep.DeepCutAuto
import Derived.Deep.RegionWith
namespace Go.Proofs.Ytmhgpgaikcimnaa
set_option linter.unusedSimpArgs false
set_option linter.unusedVariables false
set_option linter.unusedSectionVars false
open Go.RowKit

section
variable {Fr : World → Nat → FM → (Nat → Prop) → Prop}
theorem sameB_self (m : FM) : sameB m m = true := by unfold sameB; exact decide_eq_true ⟨rfl, rfl⟩
/-- how many were written: the cell of the document's frame, and the program's answer -/
theorem mid_writes (F : FSays Fr) {w : World} {a p W H : Nat} {b : Int} {wr : World} {m : FM} {S T : Nat → Prop} (h : Mid Fr w a p W H b wr m S T) :
    wr.cell? ⟨p, 2, none⟩ = some (.int .i64 m.n) ∧ ∀ w', AnyLater wr w' → Calls Try.prog 12 #[.pointer (some ⟨a, 0, none⟩)] w' fun e w'' => e = .returned (.int .i64 m.n) ∧ AnyLater w' w'' := by
  obtain ⟨v, rs, hx⟩ := h.both.x
  exact ⟨by rw [own_row hx.top]; rfl, fun w' hw => F.writes (F.later h.both.f hw) h.both.small⟩
/-- sizes that may not be -/
theorem framePlays_bad (F : FSays Fr) (w : World) (v : Value) (W H : Int) (bw : I64 W) (bh : I64 H) (hb : W < 0 ∨ H < 0 ∨ 4096 < W ∨ 4096 < H) :
    Calls Try.prog 3 #[.int .i64 W, .int .i64 H, v] w fun e w' => e = .returned (.bool true) ∧ AnyLater w w' := by
  have HF := Lib.hid F
  have CB := Lib.hid (F.newBad W H w bw bh hb)
  have CV := Lib.hid (fun w' => lives_any F w')
  have hx : W < 0 ∨ (¬ W < 0 ∧ H < 0) ∨ (¬ W < 0 ∧ ¬ H < 0 ∧ 4096 < W) ∨ (¬ W < 0 ∧ ¬ H < 0 ∧ ¬ 4096 < W ∧ 4096 < H) := by omega
  clear F hb bw bh
  rcases hx with h1 | ⟨h1, h2⟩ | ⟨h1, h2, h3⟩ | ⟨h1, h2, h3, h4⟩
  all_goals
    go_enter Try.func3, Try.ntmps3
    go_wp2_with fail
    refine CB.out.mono ?_
    rintro e w1 ⟨rfl, b_w1⟩
    go_wp2_with fail
    refine (CV.out _).mono ?_
    rintro e w2 ⟨rfl, b_w2⟩
    go_wp2_with fail
    go_ret
    exact ⟨rfl, b_w1.trans b_w2⟩
set_option maxRecDepth 100000 in
set_option maxHeartbeats 12800000 in
theorem framePlays_good (F : FSays Fr) (w : World) (v : Value) (l : List AM) (W0 H0 : Nat) (hv : RA w v l) (h1 : W0 ≤ 4096) (h2 : H0 ≤ 4096) :
    Calls Try.prog 3 #[.int .i64 W0, .int .i64 H0, v] w fun e w' => e = .returned (.bool true) ∧ AnyLater w w' := by
  obtain ⟨Ad, cap, rfl, hcl⟩ := hv.cells
  have HF := Lib.hid F
  have HA := Lib.hid hv
  have HCl := Lib.hid hcl
  have CV := Lib.hid (fun w' => lives_any F w')
  clear F hv hcl
  go_enter Try.func3, Try.ntmps3
  go_upto_if 43 with fail
  go_cut [0] (fun x wx => ∃ W : Nat, x = .int .i64 W ∧ W ≤ 40 ∧ wx = w)
  case first =>
    by_cases g : W0 ≤ 40
    · go_wp2_with fail
      go_meet
      case rel => exact ⟨W0, rfl, g, rfl⟩
    · go_wp2_with fail
      go_meet
      case rel => exact ⟨40, rfl, by decide, rfl⟩
  case rest =>
    obtain ⟨W, rfl, hW, rfl⟩ := hcut
    go_upto_if 45 with fail
    go_cut [1] (fun x wx => ∃ H : Nat, x = .int .i64 H ∧ H ≤ 40 ∧ wx = wc)
    case first =>
      by_cases g : H0 ≤ 40
      · go_wp2_with fail
        go_meet
        case rel => exact ⟨H0, rfl, g, rfl⟩
      · go_wp2_with fail
        go_meet
        case rel => exact ⟨40, rfl, by decide, rfl⟩
    case rest =>
      obtain ⟨H, rfl, hH, rfl⟩ := hcut
      have CN := Lib.hid (HF.out.new W H wc (by omega) (by omega))
      go_wp2_with fail
      refine CN.out.mono ?_
      rintro e w1 ⟨a, S, rfl, b_w1, f1, hS⟩
      have CX := Lib.hid (xnew_any W H w1 (by omega) (by omega))
      have HS := Lib.hid (And.intro f1 hS)
      clear f1 hS
      unfold ptr
      go_wp2_with fail
      refine CX.out.mono ?_
      rintro e w2 ⟨p, T, rfl, b_w2, x2, hT⟩
      have HM := Lib.hid (Mid.of HF.out hW hH b_w1 HS.out.1 HS.out.2 b_w2 x2 hT)
      clear x2 hT HS CX CN
      go_upto_block 0 with fail
      go_cut [] (fun wx => ∃ m S T, Mid Fr wc a p W H 1800000000 wx m S T)
      case first =>
        go_wp2_with fail
        go_loopg [12] 30 (fun kk iv wr => ∃ i : Nat, kk = 30 - i ∧ i ≤ 30 ∧ i ≤ l.length ∧ iv = .int .i64 i ∧ ∃ m S T, Mid Fr wc a p W H (i * 60000000) wr m S T)
        case atStart => exact ⟨0, rfl, by decide, Nat.zero_le _, rfl, _, _, _, HM.out⟩
        case round =>
          obtain ⟨i, hk, h20, hl, rfl, m, S2, T2, hm⟩ := hrel
          have HM2 := Lib.hid hm
          clear hm
          by_cases hgo : i < l.length ∧ i < 30
          · obtain ⟨g1, g2⟩ := hgo
            obtain ⟨b, off, rfl, hb, hc⟩ := HCl.out (by omega)
            obtain ⟨c0, c1, c2, c3, c4, c5, c6, c7⟩ := hc i g1
            rw [← HM2.out.later.below.cell hb] at c0 c1 c2 c3 c4 c5 c6 c7
            have CD := Lib.hid (fun w' (h : AnyLater wr w') => (HM2.out.any HF.out h).does HF.out l[i] (HA.out.ok i g1) (by omega))
            unfold actV ptr at CD
            clear hc
            generalize l[i] = A at *
            go_wp2_with fail
            go_region_with (first | (go_at_call 11; refine (CD.out _ (by repeat' (first | with_reducible assumption | with_reducible exact AnyLater.refl _ | with_reducible apply AnyLater.later | with_reducible apply AnyLater.drewN | with_reducible apply AnyLater.drew | with_reducible apply AnyLater.alloc))).mono ?_; rintro e w3 ⟨rfl, m3, S3, T3, hm3⟩; have HM3 := Lib.hid hm3; obtain ⟨k3, CW⟩ := mid_writes HF.out hm3; clear hm3; have CW := Lib.hid CW) | (go_at_call 12; refine (CW.out _ (AnyLater.refl _)).mono ?_; rintro e w4 ⟨rfl, b_w4⟩; have k4 := cell_on b_w4 k3))
            all_goals
              go_wp2_with fail
              go_roundg (30 - (i + 1))
              case measure => omega
              case rel => exact ⟨i + 1, rfl, by omega, by omega, by go_num, m3, S3, T3, by have := HM3.out.any HF.out b_w4; rwa [show ((i + 1 : Nat) : Int) * 60000000 = i * 60000000 + 60000000 by omega]⟩
          · have hx : l.length ≤ i ∨ (i < l.length ∧ 30 ≤ i) := by omega
            clear hgo
            rcases hx with g1 | ⟨g1, g2⟩
            all_goals
              go_wp2_with fail
              go_meet
              case rel => exact ⟨m, S2, T2, { HM2.out with n := by have := HM2.out.n; omega }⟩
      case rest =>
        obtain ⟨m, S2, T2, hm⟩ := hcut
        have CL := Lib.hid (like_any HF.out _ a p m m S2 T2 true (sameB_self m) hm.both.f hm.both.x hm.both.small hm.both.ok (by have := hm.both.wide; omega) (by have := hm.both.high; omega))
        have HM2 := Lib.hid hm.later
        clear hm
        unfold ptr at CL
        go_wp2_with fail
        refine CL.out.mono ?_
        rintro e w5 ⟨rfl, b_w5⟩
        go_wp2_with fail
        refine (CV.out _).mono ?_
        rintro e w6 ⟨rfl, b_w6⟩
        go_wp2_with fail
        go_ret
        exact ⟨rfl, HM2.out.trans (b_w5.trans b_w6)⟩
theorem framePlays_any (F : FSays Fr) (w : World) (v : Value) (l : List AM) (W H : Int) (hv : RA w v l) (bw : I64 W) (bh : I64 H) :
    Calls Try.prog 3 #[.int .i64 W, .int .i64 H, v] w fun e w' => e = .returned (.bool true) ∧ AnyLater w w' := by
  by_cases hb : W < 0 ∨ H < 0 ∨ 4096 < W ∨ 4096 < H
  · exact framePlays_bad F w v W H bw bh hb
  · obtain ⟨W0, rfl⟩ : ∃ n : Nat, (n : Int) = W := ⟨W.toNat, by omega⟩
    obtain ⟨H0, rfl⟩ : ∃ n : Nat, (n : Int) = H := ⟨H.toNat, by omega⟩
    exact framePlays_good F w v l W0 H0 hv (by omega) (by omega)
end
end Go.Proofs.Ytmhgpgaikcimnaa
