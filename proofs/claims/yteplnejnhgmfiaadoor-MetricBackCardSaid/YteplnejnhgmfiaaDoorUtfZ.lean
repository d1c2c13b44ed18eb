/- utf: how the arguments of its laws are opened, and what the condition on the table of first bytes gives. -/
import Derived.Test.YteplnejnhgmfiaaDoorUtfsA
import Derived.Test.YteplnejnhgmfiaaDoorLaw
import Derived.OpenShut
import Derived.Deep.SlicePairs
import Derived.LaidMore
import Derived.LaidHandle
import Derived.ProofKit
import Derived.Stop.Joined
import Derived.ChangeSame
import Derived.ChangeVars
import Derived.JoinedOf
namespace Go.Proofs.YteplnejnhgmfiaaDoor
set_option linter.unusedSimpArgs false
set_option linter.unusedVariables false
set_option linter.unusedSectionVars false
open Go.ChangeShapes Go.WideShapes Go.ChangeAt Go.RowKit Go.Deep

theorem ucellsB : Tryd.prog.cellsOf 5 = 1 := by kernel_rfl
set_option maxRecDepth 100000 in
/-- a slice of bytes -/
theorem open_bytes8 {H : Type} {enc : TypeId × Value → H} {w : World} {b0 : Nat} {r : Reach} {v : Value} {d : DataW H} {p : List MemPlace}
    (hv : Value.okWide Tryd.prog w r b0 22 v) (h : DataW.Trod enc Tryd.prog w 0 (fun _ => true) true 22 v d p) : ∃ l : List Int, RU8 w v l ∧ Bytes l := by
  obtain ⟨a0, len, cap, rfl⟩ := okWide_slice Tryd.underlying22 hv
  obtain ⟨fuel, hf⟩ := h
  rcases open_ints Tryd.underlying22 Tryd.underlying5 ucellsB hf with ⟨hcs, _⟩ | ⟨a, len, cap, zs, hcs, _, hl, _, hz, _, hcell, hwf⟩
  · cases hcs
    exact ⟨[], ⟨none, 0, rfl, Nat.le_refl _, fun h => absurd h (by decide)⟩, fun n hn => by cases hn⟩
  · cases hcs
    have hge : len ≤ zs.length := by rw [hz]; split <;> omega
    have hlen : (zs.take len).length = len := by rw [List.length_take]; omega
    refine ⟨zs.take len, ⟨some a, cap, by rw [hlen], by rw [hlen]; exact hl, fun h0 => ?_⟩, fun n hn => bnd_u8 (hwf n (List.mem_of_mem_take hn))⟩
    rw [hlen] at h0
    obtain ⟨b, off, spot⟩ := a
    have hspot : spot = none := by simpa [Addr.add] using World.cell?_spot (hcell 0 (by omega))
    subst hspot
    have h00 := hcell 0 (by omega)
    rw [addr_add] at h00
    refine ⟨b, off, rfl, World.block_lt_of_cell? w ⟨b, off + 0, none⟩ h00, fun j hj => ?_⟩
    rw [hlen] at hj
    have := hcell j (by omega)
    rw [addr_add] at this
    rw [this]
    simp [List.getD_eq_getElem?_getD, show j < zs.length by omega]

theorem own : ownKnob Tryd.prog.godebug = none := by kernel_rfl
theorem laidOut : laidOutB Tryd.prog = true := by kernel_rfl
theorem gHeads : Tryd.prog.globalNamed "scrivener/utf.heads" = some 0 := by kernel_rfl
theorem tHeads : (Tryd.prog.globals[0]?).map (·.type) = some 92 := by kernel_rfl
def laidL : List (String × DataW Unit) := [("scrivener/utf.heads", Rows.laid_scrivener_utf_heads)]
/-- The door's own heap meets the condition. -/
theorem door_met (os : Os) (args : Array Value) : laidMetH Tryd.prog laidL ((World.doorLaid Tryd.prog 400 os).forCall (fun _ _ => 0) ⟨#[], args, []⟩).memory :=
  laidMetH_of_parts3 (fuel := 8) (laidMet_of_run' 8 (by kernel_rfl) (by kernel_rfl)) (by kernel_rfl) (by kernel_rfl)
set_option maxRecDepth 100000 in
/-- what the condition gives the walks -/
theorem globU_of_laid {W : World} (h : laidMetH Tryd.prog laidL W) : GlobU W := by
  rw [MakeChecks.laidMetH_plain _ _ _ (by kernel_rfl)] at h
  obtain ⟨ps, ⟨g0, t0, cs0, f0, p0, q0, hg0, ht0, hv0, hd0, _, _⟩, _, _⟩ := h
  obtain rfl := Option.some.inj (gHeads.symm.trans hg0)
  obtain rfl := Option.some.inj (tHeads.symm.trans ht0)
  obtain ⟨xs, m1, rfl, hx1, hlen, hn3, hel⟩ := DataW.trod_array Tryd.underlying92 hd0
  have c0 : Tryd.prog.cellsOf 92 = 5 := by kernel_rfl
  simp only [Prod.mk.injEq, DataW.agg.injEq, Rows.laid_scrivener_utf_heads] at hx1
  have hcs : cs0.toList.length = 5 := by rw [hlen]; exact c0
  obtain ⟨l1⟩ := cs0
  match l1, hcs with
  | [v0, v1, v2, v3, v4], _ =>
    match xs, hn3 with
    | [x0, x1, x2, x3, x4], _ =>
      have g1 := hel 1 (by decide)
      have g2 := hel 2 (by decide)
      have g3 := hel 3 (by decide)
      have g4 := hel 4 (by decide)
      simp [ucellsB] at g1 g2 g3 g4
      obtain ⟨n1, e1, k1, _⟩ := DataW.trod_int Tryd.underlying5 g1
      obtain ⟨n2, e2, k2, _⟩ := DataW.trod_int Tryd.underlying5 g2
      obtain ⟨n3, e3, k3, _⟩ := DataW.trod_int Tryd.underlying5 g3
      obtain ⟨n4, e4, k4, _⟩ := DataW.trod_int Tryd.underlying5 g4
      subst k1 k2 k3 k4
      simp at hx1
      obtain ⟨⟨_, rfl, rfl, rfl, rfl⟩, _⟩ := hx1
      cases e1; cases e2; cases e3; cases e4
      have c := World.var?_cell hg0 hv0
      exact ⟨by simpa using c 1, by simpa using c 2, by simpa using c 3, by simpa using c 4⟩
end Go.Proofs.YteplnejnhgmfiaaDoor
