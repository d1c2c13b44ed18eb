/- rope: how the arguments of its laws are opened: an act, and slices of acts. -/
import Derived.Test.YtiicaldnegcdiaaGreatRopS
import Derived.Test.YtiicaldnegcdiaaGreatLaw
import Derived.OpenShut
import Derived.Deep.SlicePairs
namespace Go.Proofs.YtiicaldnegcdiaaGreat
set_option linter.unusedSimpArgs false
set_option linter.unusedVariables false
set_option linter.unusedSectionVars false
open Go.ChangeShapes Go.WideShapes Go.ChangeAt Go.RowKit Go.Deep

section
variable {H : Type} {enc : TypeId × Value → H} {w : World} {base : Nat} {spare : Nat → Bool} {held : Bool}
theorem zcellsI : Tryz.prog.cellsOf 3 = 1 := by kernel_rfl
theorem zcellsB : Tryz.prog.cellsOf 5 = 1 := by kernel_rfl
theorem zcellsBS : Tryz.prog.cellsOf 22 = 1 := by kernel_rfl
set_option maxRecDepth 100000 in
/-- a row of bytes -/
theorem trod_by {fuel : Nat} {v : Value} {x : DataW H × List MemPlace} (h : DataW.trod enc Tryz.prog w base spare held fuel 22 [v] = some x) : ∃ l : List Int, RN .u8 w v l ∧ Bytes l := by
  rcases open_ints Tryz.underlying22 Tryz.underlying5 zcellsB h with ⟨hcs, _⟩ | ⟨a, len, cap, zs, hcs, _, hl, _, hz, _, hcell, hwf⟩
  · cases hcs
    exact ⟨[], ⟨none, 0, rfl, Nat.le_refl _, fun h => absurd h (by decide)⟩, fun n hn => by cases hn⟩
  · cases hcs
    have hge : len ≤ zs.length := by rw [hz]; split <;> omega
    have hlen : (zs.take len).length = len := by rw [List.length_take]; omega
    refine ⟨zs.take len, ⟨some a, cap, by rw [hlen], by rw [hlen]; exact hl, fun h0 => ?_⟩, fun n hn => bnd_u8 (hwf n (List.mem_of_mem_take hn))⟩
    rw [hlen] at h0
    obtain ⟨b, off, spot⟩ := a
    have hspot : spot = none := by simpa [Addr.add] using World.cell?_spot (hcell 0 (by omega))
    subst hspot
    have h00 := hcell 0 (by omega)
    rw [add_plain] at h00
    refine ⟨b, off, rfl, World.block_lt_of_cell? w ⟨b, off + 0, none⟩ h00, fun j hj => ?_⟩
    rw [hlen] at hj
    have := hcell j (by omega)
    rw [add_plain] at this
    rw [this]
    simp [List.getD_eq_getElem?_getD, show j < zs.length by omega]
end
set_option maxRecDepth 100000 in
/-- a slice of bytes -/
theorem open_by {H : Type} {enc : TypeId × Value → H} {w : World} {b0 : Nat} {r : Reach} {v : Value} {d : DataW H} {p : List MemPlace}
    (hv : Value.okWide Tryz.prog w r b0 22 v) (h : DataW.Trod enc Tryz.prog w 0 (fun _ => true) true 22 v d p) : ∃ l : List Int, RN .u8 w v l ∧ Bytes l := by
  obtain ⟨a0, len, cap, rfl⟩ := okWide_slice Tryz.underlying22 hv
  obtain ⟨fuel, hf⟩ := h
  exact trod_by hf
end Go.Proofs.YtiicaldnegcdiaaGreat
