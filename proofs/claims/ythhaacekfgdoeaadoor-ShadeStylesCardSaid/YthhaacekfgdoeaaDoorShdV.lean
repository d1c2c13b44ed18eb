/- shade: what the condition on the row of colours gives. -/
import Derived.Test.YthhaacekfgdoeaaDoorShdI
import Derived.Test.YthhaacekfgdoeaaDoorLaw
import Derived.OpenShut
import Derived.Deep.SlicePairs
import Derived.LaidMore
import Derived.LaidHandle
import Derived.ProofKit
import Derived.Stop.Joined
import Derived.ChangeSame
import Derived.ChangeVars
import Derived.JoinedOf
namespace Go.Proofs.YthhaacekfgdoeaaDoor
set_option linter.unusedSimpArgs false
set_option linter.unusedVariables false
set_option linter.unusedSectionVars false
open Go.ChangeShapes Go.WideShapes Go.ChangeAt Go.RowKit Go.Deep

theorem scellsU : Tryd.prog.cellsOf 26 = 1 := by kernel_rfl
theorem own : ownKnob Tryd.prog.godebug = none := by kernel_rfl
theorem laidOut : laidOutB Tryd.prog = true := by kernel_rfl
theorem gInks : Tryd.prog.globalNamed "scrivener/shade.inks" = some 0 := by kernel_rfl
theorem tInks : (Tryd.prog.globals[0]?).map (·.type) = some 30 := by kernel_rfl
def laidL : List (String × DataW Unit) := [("scrivener/shade.inks", Rows.laid_scrivener_shade_inks)]
/-- The door's own heap meets the condition. -/
theorem door_met (os : Os) (args : Array Value) : laidMetH Tryd.prog laidL ((World.doorLaid Tryd.prog 400 os).forCall (fun _ _ => 0) ⟨#[], args, []⟩).memory :=
  laidMetH_of_parts3 (fuel := 8) (laidMet_of_run' 8 (by kernel_rfl) (by kernel_rfl)) (by kernel_rfl) (by kernel_rfl)
/-- what the condition gives the walks -/
theorem globI_of_laid {W : World} (h : laidMetH Tryd.prog laidL W) : GlobI W := by
  rw [MakeChecks.laidMetH_plain _ _ _ (by kernel_rfl)] at h
  obtain ⟨ps, ⟨g0, t0, cs0, f0, p0, q0, hg0, ht0, hv0, hd0, _, _⟩, _, _⟩ := h
  obtain rfl := Option.some.inj (gInks.symm.trans hg0)
  obtain rfl := Option.some.inj (tInks.symm.trans ht0)
  obtain ⟨xs, m1, rfl, hx1, hlen, hn3, hel⟩ := DataW.trod_array Tryd.underlying30 hd0
  have c0 : Tryd.prog.cellsOf 30 = 8 := by kernel_rfl
  simp only [Prod.mk.injEq, DataW.agg.injEq, Rows.laid_scrivener_shade_inks] at hx1
  have hcs : cs0.toList.length = 8 := by rw [hlen]; exact c0
  obtain ⟨l1⟩ := cs0
  match l1, hcs with
  | [v0, v1, v2, v3, v4, v5, v6, v7], _ =>
    match xs, hn3 with
    | [x0, x1, x2, x3, x4, x5, x6, x7], _ =>
      have g0 := hel 0 (by decide)
      have g1 := hel 1 (by decide)
      have g2 := hel 2 (by decide)
      have g3 := hel 3 (by decide)
      have g4 := hel 4 (by decide)
      have g5 := hel 5 (by decide)
      have g6 := hel 6 (by decide)
      have g7 := hel 7 (by decide)
      simp [scellsU] at g0 g1 g2 g3 g4 g5 g6 g7
      obtain ⟨n0, e0, k0, _⟩ := DataW.trod_int Tryd.underlying26 g0
      obtain ⟨n1, e1, k1, _⟩ := DataW.trod_int Tryd.underlying26 g1
      obtain ⟨n2, e2, k2, _⟩ := DataW.trod_int Tryd.underlying26 g2
      obtain ⟨n3, e3, k3, _⟩ := DataW.trod_int Tryd.underlying26 g3
      obtain ⟨n4, e4, k4, _⟩ := DataW.trod_int Tryd.underlying26 g4
      obtain ⟨n5, e5, k5, _⟩ := DataW.trod_int Tryd.underlying26 g5
      obtain ⟨n6, e6, k6, _⟩ := DataW.trod_int Tryd.underlying26 g6
      obtain ⟨n7, e7, k7, _⟩ := DataW.trod_int Tryd.underlying26 g7
      subst k0 k1 k2 k3 k4 k5 k6 k7
      simp at hx1
      obtain ⟨⟨rfl, rfl, rfl, rfl, rfl, rfl, rfl, rfl⟩, _⟩ := hx1
      cases e0; cases e1; cases e2; cases e3; cases e4; cases e5; cases e6; cases e7
      have c := World.var?_cell hg0 hv0
      intro j hj
      have : j = 0 ∨ j = 1 ∨ j = 2 ∨ j = 3 ∨ j = 4 ∨ j = 5 ∨ j = 6 ∨ j = 7 := by omega
      rcases this with rfl | rfl | rfl | rfl | rfl | rfl | rfl | rfl <;> (first | simpa [inkL] using c 0 | simpa [inkL] using c 1 | simpa [inkL] using c 2 | simpa [inkL] using c 3 | simpa [inkL] using c 4 | simpa [inkL] using c 5 | simpa [inkL] using c 6 | simpa [inkL] using c 7)
end Go.Proofs.YthhaacekfgdoeaaDoor
