/- shade: the program's Face, Ink and Style: by contract. -/
import Derived.Test.YthhaacekfgdoeaaDoorShdQ
import Derived.Test.YthhaacekfgdoeaaDoorShdS
namespace Go.Proofs.YthhaacekfgdoeaaDoor
set_option linter.unusedSimpArgs false
set_option linter.unusedVariables false
set_option linter.unusedSectionVars false
open Go.RowKit

set_option maxRecDepth 100000 in
theorem face_any (s : Int) (w : World) (c : Int) (hc : faceS s = c) (hs : I64s s) : Calls Tryd.prog 7 #[.int .i64 s] w fun e w' => e = .returned (.int .i64 c) ∧ AnyLater w w' := by
  rcases hg : goodS s
  · have HG := Lib.hid (fun w => good_any s w false hg hs)
    have HC : Hid (0 = c) := Lib.hid (by rw [← hc]; unfold faceS; rw [hg]; rfl)
    clear hc hg
    obtain ⟨s1, s2⟩ := hs
    go_enter Tryd.func7, Tryd.ntmps7
    go_wp2_with fail
    refine (HG.out _).mono ?_
    rintro e w1 ⟨rfl, b1⟩
    have H1 := Lib.hid b1
    clear b1
    go_wp2_with fail
    go_ret
    exact ⟨ret_int HC.out, H1.out⟩
  · have HG := Lib.hid (fun w => good_any s w true hg hs)
    have HC : Hid (s % 3 = c) := Lib.hid (by rw [← hc]; unfold faceS; rw [hg]; rfl)
    obtain ⟨s1, s2⟩ := goodS_in hg
    clear hc hg hs
    go_enter Tryd.func7, Tryd.ntmps7
    go_wp2_with fail
    refine (HG.out _).mono ?_
    rintro e w1 ⟨rfl, b1⟩
    have H1 := Lib.hid b1
    clear b1
    go_wp2_with fail
    go_ret
    exact ⟨ret_int HC.out, H1.out⟩
set_option maxRecDepth 100000 in
set_option maxHeartbeats 1600000 in
theorem ink_any (s : Int) (w : World) (c : Int) (hgl : GlobI w) (hc : inkS s = c) (hs : I64s s) : Calls Tryd.prog 9 #[.int .i64 s] w fun e w' => e = .returned (.int .u32 c) ∧ AnyLater w w' := by
  rcases hg : goodS s
  · have HG := Lib.hid (fun w => good_any s w false hg hs)
    have HC : Hid (0 = c) := Lib.hid (by rw [← hc]; unfold inkS; rw [hg]; rfl)
    clear hc hg hgl
    obtain ⟨s1, s2⟩ := hs
    go_enter Tryd.func9, Tryd.ntmps9
    go_wp2_with fail
    refine (HG.out _).mono ?_
    rintro e w1 ⟨rfl, b1⟩
    have H1 := Lib.hid b1
    clear b1
    go_wp2_with fail
    go_ret
    exact ⟨ret_int HC.out, H1.out⟩
  · have HG := Lib.hid (fun w => good_any s w true hg hs)
    have HI := Lib.hid hgl
    obtain ⟨s1, s2⟩ := goodS_in hg
    obtain ⟨k, hk⟩ : ∃ k : Nat, (k : Int) = s / 3 := ⟨(s / 3).toNat, by omega⟩
    have hk8 : k < 8 := by omega
    have HC : Hid (inkL.getD k 0 = c) := Lib.hid (by rw [← hc]; unfold inkS; rw [hg, if_pos rfl, ← hk]; rfl)
    have hd : s / 3 = (k : Int) := hk.symm
    clear hc hg hs hk hgl
    go_enter Tryd.func9, Tryd.ntmps9
    go_wp2_with fail
    refine (HG.out _).mono ?_
    rintro e w1 ⟨rfl, b1⟩
    have H1 := Lib.hid b1
    have c1 := (HI.out.later b1) k hk8
    clear b1
    go_wp2_with fail
    go_ret
    exact ⟨ret_int HC.out, H1.out⟩
set_option maxRecDepth 100000 in
theorem styleY_any (f i : Int) (w : World) (hm : mayS f i = true) : Calls Tryd.prog 4 #[.int .i64 f, .int .i64 i] w fun e w' => e = .returned (.tuple #[.int .i64 (3 * i + f), .bool true]) ∧ AnyLater w w' := by
  obtain ⟨m1, m2, m3, m4⟩ := of_decide_eq_true hm
  have d1 : decide (f < 0) = false := decide_eq_false (by omega)
  have d2 : decide (i < 0) = false := decide_eq_false (by omega)
  have HE : Hid (i * 3 + f = 3 * i + f) := Lib.hid (by omega)
  clear hm
  go_enter Tryd.func4, Tryd.ntmps4
  go_wp2_with fail
  refine bodyPost_ret (v := .tuple #[.int .i64 (i * 3 + f), .bool true]) (by simp [results, Tryd.results4, go_sem]) rfl ?_
  exact ⟨by rw [HE.out], AnyLater.refl _⟩
set_option maxRecDepth 100000 in
theorem styleN_any (f i : Int) (w : World) (hm : mayS f i = false) (hf : I64s f) (hi : I64s i) : Calls Tryd.prog 4 #[.int .i64 f, .int .i64 i] w fun e w' => e = .returned (.tuple #[.int .i64 0, .bool false]) ∧ AnyLater w w' := by
  have hn := of_decide_eq_false hm
  obtain ⟨f1, f2⟩ := hf
  obtain ⟨i1, i2⟩ := hi
  have q : f < 0 ∨ (0 ≤ f ∧ 3 ≤ f) ∨ (0 ≤ f ∧ f < 3 ∧ i < 0) ∨ (0 ≤ f ∧ f < 3 ∧ 0 ≤ i ∧ 8 ≤ i) := by omega
  clear hm hn
  rcases q with q | ⟨q, q'⟩ | ⟨q, q', q''⟩ | ⟨q, q', q'', q3⟩
  all_goals
    go_enter Tryd.func4, Tryd.ntmps4
    go_wp2_with fail
    refine bodyPost_ret (v := .tuple #[.int .i64 0, .bool false]) (by simp [results, Tryd.results4, go_sem]) rfl ?_
    exact ⟨rfl, AnyLater.refl _⟩
theorem ssty : SSty :=
  { slow with
    face := fun s n hn hs => face_any s _ n hn hs
    ink := fun s n hg hn hs => ink_any s _ n hg hn hs
    styleY := fun f i hm => styleY_any f i _ hm
    styleN := fun f i hm hf hi => styleN_any f i _ hm hf hi }
end Go.Proofs.YthhaacekfgdoeaaDoor
