/- what the proof stands on: UtfZ -/
import Derived.OpenShut
import Derived.Deep.SlicePairs
import Derived.LaidMore
import Derived.LaidHandle
import Derived.ProofKit
import Derived.Stop.Joined
import Derived.ChangeSame
import Derived.ChangeVars
import Derived.JoinedOf
import Derived.Test.YtamhnffokoejjaaGreatDoorKnaz
import Derived.Test.YtamhnffokoejjaaGreatDoorKnah
namespace Go.Proofs.YtamhnffokoejjaaGreatDoor
set_option linter.unusedSimpArgs false
set_option linter.unusedVariables false
set_option linter.unusedSectionVars false
open Go.ChangeShapes Go.WideShapes Go.ChangeAt Go.RowKit Go.Deep
theorem ucellsB : Tryz.prog.cellsOf 5 = 1 := by kernel_rfl
theorem own : ownKnob Tryz.prog.godebug = none := by kernel_rfl
theorem laidOut : laidOutB Tryz.prog = true := by kernel_rfl
theorem gHeads : Tryz.prog.globalNamed "scrivener/utf.heads" = some 0 := by kernel_rfl
theorem tHeads : (Tryz.prog.globals[0]?).map (·.type) = some 282 := by kernel_rfl
def laidL : List (String × DataW Unit) := [("scrivener/utf.heads", Rows.laid_scrivener_utf_heads)]
theorem door_met (os : Os) (args : Array Value) : laidMetH Tryz.prog laidL ((World.doorLaid Tryz.prog 400 os).forCall (fun _ _ => 0) ⟨#[], args, []⟩).memory :=
  laidMetH_of_parts3 (fuel := 8) (laidMet_of_run' 8 (by kernel_rfl) (by kernel_rfl)) (by kernel_rfl) (by kernel_rfl)
set_option maxRecDepth 100000 in
theorem globU_of_laid {W : World} (h : laidMetH Tryz.prog laidL W) : GlobU W := by
  rw [MakeChecks.laidMetH_plain _ _ _ (by kernel_rfl)] at h
  obtain ⟨ps, ⟨g0, t0, cs0, f0, p0, q0, hg0, ht0, hv0, hd0, _, _⟩, _, _⟩ := h
  obtain rfl := Option.some.inj (gHeads.symm.trans hg0)
  obtain rfl := Option.some.inj (tHeads.symm.trans ht0)
  obtain ⟨xs, m1, rfl, hx1, hlen, hn3, hel⟩ := DataW.trod_array Tryz.underlying282 hd0
  have c0 : Tryz.prog.cellsOf 282 = 5 := by kernel_rfl
  simp only [Prod.mk.injEq, DataW.agg.injEq, Rows.laid_scrivener_utf_heads] at hx1
  have hcs : cs0.toList.length = 5 := by rw [hlen]; exact c0
  obtain ⟨l1⟩ := cs0
  match l1, hcs with
  | [v0, v1, v2, v3, v4], _ =>
    match xs, hn3 with
    | [x0, x1, x2, x3, x4], _ =>
      have g1 := hel 1 (by decide)
      have g2 := hel 2 (by decide)
      have g3 := hel 3 (by decide)
      have g4 := hel 4 (by decide)
      simp [ucellsB] at g1 g2 g3 g4
      obtain ⟨n1, e1, k1, _⟩ := DataW.trod_int Tryz.underlying5 g1
      obtain ⟨n2, e2, k2, _⟩ := DataW.trod_int Tryz.underlying5 g2
      obtain ⟨n3, e3, k3, _⟩ := DataW.trod_int Tryz.underlying5 g3
      obtain ⟨n4, e4, k4, _⟩ := DataW.trod_int Tryz.underlying5 g4
      subst k1 k2 k3 k4
      simp at hx1
      obtain ⟨⟨_, rfl, rfl, rfl, rfl⟩, _⟩ := hx1
      cases e1; cases e2; cases e3; cases e4
      have c := World.var?_cell hg0 hv0
      exact ⟨by simpa using c 1, by simpa using c 2, by simpa using c 3, by simpa using c 4⟩
end Go.Proofs.YtamhnffokoejjaaGreatDoor
