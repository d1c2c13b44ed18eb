/- How arguments are opened that are slices of numbers of 64 bits (text Nums). -/
import Derived.Test.YtjoadlfkdkeomaaNums
import Derived.Test.YtjoadlfkdkeomaaLaw
import Derived.OpenShut
namespace Go.Proofs.Ytjoadlfkdkeomaa
set_option linter.unusedSimpArgs false
set_option linter.unusedVariables false
set_option linter.unusedSectionVars false
open Go.ChangeShapes Go.WideShapes Go.ChangeAt Go.RowKit

/-- a slice of numbers of 64 bits, wherever it lies -/
theorem trod_nums {H : Type} {enc : TypeId × Value → H} {P : Program} {w : World} {base : Nat} {spare : Nat → Bool} {held : Bool} {fuel : Nat} {t e : TypeId} {v : Value} {x : DataW H × List MemPlace} (ht : P.underlying t = some (.slice e)) (he : P.underlying e = some (.int .i64)) (hc : P.cellsOf e = 1)
    (hf : DataW.trod enc P w base spare held fuel t [v] = some x) : ∃ l : List Int, RI w v l ∧ ∀ y ∈ l, (Lit.int .i64 y).wf = true := by
  rcases open_ints ht he hc hf with ⟨hcs, _⟩ | ⟨a, len, cap, zs, hcs, _, hl, hm, hz, _, hcell, hwf⟩
  · cases hcs
    exact ⟨[], ⟨none, 0, rfl, Nat.le_refl _, fun h => absurd h (by decide)⟩, fun y hy => by cases hy⟩
  · cases hcs
    have hge : len ≤ zs.length := by rw [hz]; split <;> omega
    have hlen : (zs.take len).length = len := by rw [List.length_take]; omega
    have hcell' : ∀ (i : Nat) (hi : i < (zs.take len).length), w.cell? (a.add i) = some (.int .i64 (zs.take len)[i]) := fun i hi => by
      have hi2 : i < len := by rwa [hlen] at hi
      rw [hcell i (by omega), List.getElem_take]
      simp [List.getD_eq_getElem?_getD, show i < zs.length by omega]
    refine ⟨zs.take len, ⟨some a, cap, by rw [hlen], by rw [hlen]; exact hl, fun h0 => ?_⟩, fun y hy => hwf y (List.mem_of_mem_take hy)⟩
    obtain ⟨b, off, spot⟩ := a
    have hspot : spot = none := by simpa [Addr.add] using World.cell?_spot (hcell' 0 h0)
    subst hspot
    refine ⟨b, off, rfl, ?_, fun j hj => ?_⟩
    · have := hcell' 0 h0
      rw [addr_add] at this
      exact World.block_lt_of_cell? w ⟨b, off + 0, none⟩ this
    · have := hcell' j hj
      rwa [addr_add] at this
/-- a slice of numbers of 64 bits -/
theorem open_nums {H : Type} {enc : TypeId × Value → H} {P : Program} {w : World} {b0 : Nat} {r : Reach} {t e : TypeId} {v : Value} {d : DataW H} {p : List MemPlace} (ht : P.underlying t = some (.slice e)) (he : P.underlying e = some (.int .i64)) (hc : P.cellsOf e = 1)
    (hv : Value.okWide P w r b0 t v) (h : DataW.Trod enc P w 0 (fun _ => true) true t v d p) : ∃ l : List Int, RI w v l := by
  obtain ⟨a0, len, cap, rfl⟩ := okWide_slice ht hv
  obtain ⟨fuel, hf⟩ := h
  rcases open_ints ht he hc hf with ⟨hcs, _⟩ | ⟨a, len', cap', zs, hcs, _, hl, hm, hz, _, hcell, _⟩
  · simp [Value.cells] at hcs
    obtain ⟨rfl, rfl, rfl⟩ := hcs
    exact ⟨[], none, 0, rfl, Nat.le_refl _, fun h => absurd h (by decide)⟩
  · simp [Value.cells] at hcs
    obtain ⟨rfl, rfl, rfl⟩ := hcs
    simp only [if_true] at hz
    have hlen : (zs.take len).length = len := by rw [List.length_take]; omega
    have hcell' : ∀ (i : Nat) (hi : i < (zs.take len).length), w.cell? (a.add i) = some (.int .i64 (zs.take len)[i]) := fun i hi => by
      have hi2 : i < len := by rwa [hlen] at hi
      rw [hcell i (by omega), List.getElem_take]
      simp [List.getD_eq_getElem?_getD, show i < zs.length by omega]
    refine ⟨zs.take len, some a, cap, by rw [hlen], by rw [hlen]; exact hl, fun h0 => ?_⟩
    obtain ⟨b, off, spot⟩ := a
    have hspot : spot = none := by simpa [Addr.add] using World.cell?_spot (hcell' 0 h0)
    subst hspot
    refine ⟨b, off, rfl, ?_, fun j hj => ?_⟩
    · have := hcell' 0 h0
      rw [addr_add] at this
      exact World.block_lt_of_cell? w ⟨b, off + 0, none⟩ this
    · have := hcell' j hj
      rwa [addr_add] at this
end Go.Proofs.Ytjoadlfkdkeomaa
