/- shade: the document's own functions of a colour's parts: by contract. -/
import Derived.Test.YthhaacekfgdoeaaShdM
namespace Go.Proofs.Ythhaacekfgdoeaa
set_option linter.unusedSimpArgs false
set_option linter.unusedVariables false
set_option linter.unusedSectionVars false
open Go.RowKit

set_option maxRecDepth 100000 in
theorem parts_any (c : Int) (w : World) (hc : U32s c) : Calls Try.prog 6 #[.int .u32 c] w fun e w' => e = .returned (.agg #[.int .u32 (c / 65536 % 256), .int .u32 (c / 256 % 256), .int .u32 (c % 256)]) ∧ AnyLater w w' := by
  obtain ⟨c1, c2⟩ := hc
  go_enter Try.func6, Try.ntmps6
  go_wp2_with fail
  refine bodyPost_ret (v := .agg #[.int .u32 (c / 65536 % 256), .int .u32 (c / 256 % 256), .int .u32 (c % 256)]) (by simp [results, Try.results6, go_sem, *]) rfl ?_
  exact ⟨rfl, by repeat' (first | with_reducible assumption | with_reducible exact AnyLater.refl _ | with_reducible apply AnyLater.setCell | with_reducible apply AnyLater.later | with_reducible apply AnyLater.drewN | with_reducible apply AnyLater.drew | with_reducible apply AnyLater.alloc | ((try simp only [World.size_alloc, World.size_setCell, World.size_drew]); (try dsimp only); omega))⟩
set_option maxRecDepth 100000 in
set_option maxHeartbeats 1600000 in
theorem refMix_any (a b : Int) (w : World) (c : Int) (hc : mixZ a b = c) (ha : U32s a) (hb : U32s b) : Calls Try.prog 8 #[.int .u32 a, .int .u32 b] w fun e w' => e = .returned (.int .u32 c) ∧ AnyLater w w' := by
  have HA := Lib.hid (fun w => parts_any a w ha)
  have HB := Lib.hid (fun w => parts_any b w hb)
  have HC := Lib.hid hc
  obtain ⟨a1, a2⟩ := ha
  obtain ⟨b1, b2⟩ := hb
  clear hc
  go_enter Try.func8, Try.ntmps8
  go_wp2_with fail
  refine (HA.out _).mono ?_
  rintro e w1 ⟨rfl, c1⟩
  have H1 := Lib.hid c1
  clear c1
  go_wp2_with fail
  refine (HB.out _).mono ?_
  rintro e w2 ⟨rfl, c2⟩
  have H2 := Lib.hid (H1.out.trans c2)
  clear c2
  go_wp2_with fail
  go_ret
  have h2 := H2.out
  exact ⟨ret_int (by rw [← HC.out]; unfold mixZ; rfl), by repeat' (first | with_reducible assumption | with_reducible exact AnyLater.refl _ | with_reducible apply AnyLater.setCell | with_reducible apply AnyLater.later | with_reducible apply AnyLater.drewN | with_reducible apply AnyLater.drew | with_reducible apply AnyLater.alloc | ((try simp only [World.size_alloc, World.size_setCell, World.size_drew]); (try dsimp only); omega))⟩
end Go.Proofs.Ythhaacekfgdoeaa
