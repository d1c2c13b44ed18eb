/- shade: what the program's functions are to tell that every law asks; lives. -/
import Derived.Test.YthhaacekfgdoeaaShdN
namespace Go.Proofs.Ythhaacekfgdoeaa
set_option linter.unusedSimpArgs false
set_option linter.unusedVariables false
set_option linter.unusedSectionVars false
open Go.RowKit

/-- what the program's functions that every law of shade asks are to tell -/
structure SLow : Prop where
  good : ∀ {w : World} (s : Int) (c : Bool), goodS s = c → I64s s → Calls Try.prog 17 #[.int .i64 s] w fun e w' => e = .returned (.bool c) ∧ AnyLater w w'
  mix : ∀ {w : World} (a b n : Int), mixZ a b = n → U32s a → U32s b → Calls Try.prog 7 #[.int .u32 a, .int .u32 b] w fun e w' => e = .returned (.int .u32 n) ∧ AnyLater w w'
  hex : ∀ {w : World} (c : Int), U32s c → Calls Try.prog 11 #[.int .u32 c] w fun e w' => e = .returned (.string (mkS (hexL c))) ∧ AnyLater w w'
set_option maxRecDepth 100000 in
set_option maxHeartbeats 1600000 in
theorem slives_any (T : SLow) (w : World) : Calls Try.prog 10 #[] w fun e w' => e = .returned (.bool true) ∧ AnyLater w w' := by
  have HM := Lib.hid (fun (w : World) => T.mix (w := w) 16711680 255 8323199 (by decide) ⟨by decide, by decide⟩ ⟨by decide, by decide⟩)
  have HH := Lib.hid (fun (w : World) => T.hex (w := w) 2748 ⟨by decide, by decide⟩)
  have HG := Lib.hid (fun (w : World) => T.good (w := w) 3 true (by decide) ⟨by decide, by decide⟩)
  obtain ⟨S, hS⟩ : ∃ S, mkS (hexL 2748) = S := ⟨_, rfl⟩
  have hse : S.toList = ([48, 48, 48, 97, 98, 99] : List UInt8) := by rw [← hS, ByteArray.toList_eq]; decide
  rw [hS] at HH
  clear T hS
  go_enter Try.func10, Try.ntmps10
  go_wp2_with fail
  refine (HM.out _).mono ?_
  rintro e w1 ⟨rfl, b1⟩
  have H1 := Lib.hid b1
  clear b1
  go_wp2_with fail
  refine (HH.out _).mono ?_
  rintro e w2 ⟨rfl, b2⟩
  have H2 := Lib.hid (H1.out.trans b2)
  clear b2
  go_wp2_with fail
  refine (HG.out _).mono ?_
  rintro e w3 ⟨rfl, b3⟩
  have H3 := Lib.hid (H2.out.trans b3)
  clear b3
  go_wp2_with fail
  go_ret
  exact ⟨rfl, H3.out⟩
end Go.Proofs.Ythhaacekfgdoeaa
