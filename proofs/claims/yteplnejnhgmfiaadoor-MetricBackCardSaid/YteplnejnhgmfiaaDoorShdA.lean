/- shade: the document's own functions of styles: by contract. -/
import Derived.Test.YteplnejnhgmfiaaDoorShdG
namespace Go.Proofs.YteplnejnhgmfiaaDoor
set_option linter.unusedSimpArgs false
set_option linter.unusedVariables false
set_option linter.unusedSectionVars false
open Go.RowKit

set_option maxRecDepth 100000 in
theorem refFaceS_any (s : Int) (w : World) (c : Int) (hc : faceS s = c) (hs : I64s s) : Calls Tryd.prog 35 #[.int .i64 s] w fun e w' => e = .returned (.int .i64 c) ∧ w = w' := by
  rcases hg : goodS s
  · have HG := Lib.hid (fun w => refGoodS_any s w false hg hs)
    have HC : Hid (0 = c) := Lib.hid (by rw [← hc]; unfold faceS; rw [hg]; rfl)
    clear hc hg
    obtain ⟨s1, s2⟩ := hs
    go_enter Tryd.func35, Tryd.ntmps35
    go_wp2_with (go_at_call 45; refine (HG.out _).mono ?_; rintro e w' ⟨rfl, rfl⟩)
    go_ret
    exact ⟨ret_int HC.out, rfl⟩
  · have HG := Lib.hid (fun w => refGoodS_any s w true hg hs)
    have HC : Hid (s % 3 = c) := Lib.hid (by rw [← hc]; unfold faceS; rw [hg]; rfl)
    obtain ⟨s1, s2⟩ := goodS_in hg
    clear hc hg hs
    go_enter Tryd.func35, Tryd.ntmps35
    go_wp2_with (go_at_call 45; refine (HG.out _).mono ?_; rintro e w' ⟨rfl, rfl⟩)
    go_ret
    exact ⟨ret_int HC.out, rfl⟩
end Go.Proofs.YteplnejnhgmfiaaDoor
