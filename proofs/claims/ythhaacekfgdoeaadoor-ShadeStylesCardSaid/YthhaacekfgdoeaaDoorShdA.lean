/- shade: the document's own functions of styles: by contract. -/
import Derived.Test.YthhaacekfgdoeaaDoorShdG
namespace Go.Proofs.YthhaacekfgdoeaaDoor
set_option linter.unusedSimpArgs false
set_option linter.unusedVariables false
set_option linter.unusedSectionVars false
open Go.RowKit

set_option maxRecDepth 100000 in
theorem refFaceS_any (s : Int) (w : World) (c : Int) (hc : faceS s = c) (hs : I64s s) : Calls Tryd.prog 8 #[.int .i64 s] w fun e w' => e = .returned (.int .i64 c) ∧ w = w' := by
  rcases hg : goodS s
  · have HG := Lib.hid (fun w => refGoodS_any s w false hg hs)
    have HC : Hid (0 = c) := Lib.hid (by rw [← hc]; unfold faceS; rw [hg]; rfl)
    clear hc hg
    obtain ⟨s1, s2⟩ := hs
    go_enter Tryd.func8, Tryd.ntmps8
    go_wp2_with (go_at_call 6; refine (HG.out _).mono ?_; rintro e w' ⟨rfl, rfl⟩)
    go_ret
    exact ⟨ret_int HC.out, rfl⟩
  · have HG := Lib.hid (fun w => refGoodS_any s w true hg hs)
    have HC : Hid (s % 3 = c) := Lib.hid (by rw [← hc]; unfold faceS; rw [hg]; rfl)
    obtain ⟨s1, s2⟩ := goodS_in hg
    clear hc hg hs
    go_enter Tryd.func8, Tryd.ntmps8
    go_wp2_with (go_at_call 6; refine (HG.out _).mono ?_; rintro e w' ⟨rfl, rfl⟩)
    go_ret
    exact ⟨ret_int HC.out, rfl⟩
set_option maxRecDepth 100000 in
set_option maxHeartbeats 1600000 in
theorem refInkS_any (s : Int) (w : World) (c : Int) (hc : inkS s = c) (hs : I64s s) : Calls Tryd.prog 10 #[.int .i64 s] w fun e w' => e = .returned (.int .u32 c) ∧ AnyLater w w' := by
  rcases hg : goodS s
  · have HG := Lib.hid (fun w => refGoodS_any s w false hg hs)
    have HC : Hid (0 = c) := Lib.hid (by rw [← hc]; unfold inkS; rw [hg]; rfl)
    clear hc hg
    obtain ⟨s1, s2⟩ := hs
    go_enter Tryd.func10, Tryd.ntmps10
    go_wp2_with (go_at_call 6; refine (HG.out _).mono ?_; rintro e w' ⟨rfl, rfl⟩)
    go_ret
    exact ⟨ret_int HC.out, by repeat' (first | with_reducible assumption | with_reducible exact AnyLater.refl _ | with_reducible apply AnyLater.setCell | with_reducible apply AnyLater.later | with_reducible apply AnyLater.drewN | with_reducible apply AnyLater.drew | with_reducible apply AnyLater.alloc | ((try simp only [World.size_alloc, World.size_setCell, World.size_drew]); (try dsimp only); omega))⟩
  · have HG := Lib.hid (fun w => refGoodS_any s w true hg hs)
    obtain ⟨s1, s2⟩ := goodS_in hg
    obtain ⟨k, hk⟩ : ∃ k : Nat, (k : Int) = s / 3 := ⟨(s / 3).toNat, by omega⟩
    have HC : Hid (inkL.getD k 0 = c) := Lib.hid (by rw [← hc]; unfold inkS; rw [hg, if_pos rfl, ← hk]; rfl)
    have hk8 : k = 0 ∨ k = 1 ∨ k = 2 ∨ k = 3 ∨ k = 4 ∨ k = 5 ∨ k = 6 ∨ k = 7 := by omega
    clear hc hg hs
    have hd : s / 3 = (k : Int) := hk.symm
    clear hk
    rcases hk8 with rfl | rfl | rfl | rfl | rfl | rfl | rfl | rfl
    all_goals
      go_enter Tryd.func10, Tryd.ntmps10
      go_wp2_with (go_at_call 6; refine (HG.out _).mono ?_; rintro e w' ⟨rfl, rfl⟩)
      go_ret
      exact ⟨ret_int HC.out, by repeat' (first | with_reducible assumption | with_reducible exact AnyLater.refl _ | with_reducible apply AnyLater.setCell | with_reducible apply AnyLater.later | with_reducible apply AnyLater.drewN | with_reducible apply AnyLater.drew | with_reducible apply AnyLater.alloc | ((try simp only [World.size_alloc, World.size_setCell, World.size_drew]); (try dsimp only); omega))⟩
end Go.Proofs.YthhaacekfgdoeaaDoor
