/- glyph: how the arguments of its laws are opened: a glyph, and slices of bytes. -/
import Derived.Test.YtfliniknaonieaaGlyC
import Derived.Test.YtfliniknaonieaaLaw
import Derived.OpenShut
import Derived.Deep.SlicePairs
namespace Go.Proofs.Ytfliniknaonieaa
set_option linter.unusedSimpArgs false
set_option linter.unusedVariables false
set_option linter.unusedSectionVars false
open Go.ChangeShapes Go.WideShapes Go.ChangeAt Go.RowKit Go.Deep

section
variable {H : Type} {enc : TypeId × Value → H} {w : World} {base : Nat} {spare : Nat → Bool} {held : Bool}
theorem gcellsI : Try.prog.cellsOf 3 = 1 := by kernel_rfl
theorem gcellsU : Try.prog.cellsOf 33 = 1 := by kernel_rfl
theorem gcellsB : Try.prog.cellsOf 5 = 1 := by kernel_rfl
theorem gcellsUS : Try.prog.cellsOf 34 = 1 := by kernel_rfl
theorem gcellsG : Try.prog.cellsOf 51 = 3 := by kernel_rfl
/-- a row of bits -/
theorem trod_rows {fuel : Nat} {v : Value} {x : DataW H × List MemPlace} (h : DataW.trod enc Try.prog w base spare held fuel 34 [v] = some x) : ∃ l : List Int, RU w v l ∧ ∀ n ∈ l, 0 ≤ n ∧ n ≤ 4294967295 := by
  rcases open_ints Try.underlying34 Try.underlying33 gcellsU h with ⟨hcs, _⟩ | ⟨a, len, cap, zs, hcs, _, hl, _, hz, _, hcell, hwf⟩
  · cases hcs
    exact ⟨[], ⟨none, 0, rfl, Nat.le_refl _, fun h => absurd h (by decide)⟩, fun n hn => by cases hn⟩
  · cases hcs
    have hge : len ≤ zs.length := by rw [hz]; split <;> omega
    have hlen : (zs.take len).length = len := by rw [List.length_take]; omega
    refine ⟨zs.take len, ⟨some a, cap, by rw [hlen], by rw [hlen]; exact hl, fun h0 => ?_⟩, fun n hn => bnd_u32 (hwf n (List.mem_of_mem_take hn))⟩
    rw [hlen] at h0
    obtain ⟨b, off, spot⟩ := a
    have hspot : spot = none := by simpa [Addr.add] using World.cell?_spot (hcell 0 (by omega))
    subst hspot
    have h00 := hcell 0 (by omega)
    rw [add_plain] at h00
    refine ⟨b, off, rfl, World.block_lt_of_cell? w ⟨b, off + 0, none⟩ h00, fun j hj => ?_⟩
    rw [hlen] at hj
    have := hcell j (by omega)
    rw [add_plain] at this
    rw [this]
    simp [List.getD_eq_getElem?_getD, show j < zs.length by omega]
theorem trod_bytes {fuel : Nat} {v : Value} {x : DataW H × List MemPlace} (h : DataW.trod enc Try.prog w base spare held fuel 60 [v] = some x) : ∃ l : List Int, RY w v l ∧ ∀ n ∈ l, 0 ≤ n ∧ n ≤ 255 := by
  rcases open_ints Try.underlying60 Try.underlying5 gcellsB h with ⟨hcs, _⟩ | ⟨a, len, cap, zs, hcs, _, hl, _, hz, _, hcell, hwf⟩
  · cases hcs
    exact ⟨[], ⟨none, 0, rfl, Nat.le_refl _, fun h => absurd h (by decide)⟩, fun n hn => by cases hn⟩
  · cases hcs
    have hge : len ≤ zs.length := by rw [hz]; split <;> omega
    have hlen : (zs.take len).length = len := by rw [List.length_take]; omega
    refine ⟨zs.take len, ⟨some a, cap, by rw [hlen], by rw [hlen]; exact hl, fun h0 => ?_⟩, fun n hn => bnd_u8 (hwf n (List.mem_of_mem_take hn))⟩
    rw [hlen] at h0
    obtain ⟨b, off, spot⟩ := a
    have hspot : spot = none := by simpa [Addr.add] using World.cell?_spot (hcell 0 (by omega))
    subst hspot
    have h00 := hcell 0 (by omega)
    rw [add_plain] at h00
    refine ⟨b, off, rfl, World.block_lt_of_cell? w ⟨b, off + 0, none⟩ h00, fun j hj => ?_⟩
    rw [hlen] at hj
    have := hcell j (by omega)
    rw [add_plain] at this
    rw [this]
    simp [List.getD_eq_getElem?_getD, show j < zs.length by omega]
/-- a glyph's three cells -/
theorem trod_glyph {fuel : Nat} {cs : List Value} {x : DataW H × List MemPlace} (h : DataW.trod enc Try.prog w base spare held fuel 51 cs = some x) : ∃ (g : GM) (s : Value), cs = [.int .i64 g.w, .int .i64 g.h, s] ∧ RU w s g.rows ∧ g.Ok := by
  obtain ⟨xs, m, _, _, hcl, hl, hi⟩ := DataW.trod_struct Try.underlying51 h
  have hlen : cs.length = 3 := hcl.trans gcellsG
  match cs, hlen, xs, hl with
  | [v0, v1, v2], _, [x0, x1, x2], _ =>
    have g0 := hi 0 _ rfl
    have g1 := hi 1 _ rfl
    have g2 := hi 2 _ rfl
    simp [gcellsI, gcellsUS] at g0 g1 g2
    obtain ⟨n0, e0, _, q0⟩ := DataW.trod_int Try.underlying3 g0
    obtain ⟨n1, e1, _, q1⟩ := DataW.trod_int Try.underlying3 g1
    obtain ⟨l, hl2, hb⟩ := trod_rows g2
    cases e0; cases e1
    exact ⟨⟨n0, n1, l⟩, v2, rfl, hl2, ⟨bnd_i64 q0, bnd_i64 q1, hb⟩⟩
end
/-- a glyph by value -/
theorem open_glyph {H : Type} {enc : TypeId × Value → H} {w : World} {b0 : Nat} {r : Reach} {v : Value} {d : DataW H} {p : List MemPlace}
    (hv : Value.okWide Try.prog w r b0 51 v) (h : DataW.Trod enc Try.prog w 0 (fun _ => true) true 51 v d p) : ∃ g : GM, IsG g v w ∧ g.Ok := by
  have hagg : ∃ cs : Array Value, v = .agg cs := by
    unfold Value.okWide at hv
    rw [Try.underlying51] at hv
    obtain ⟨cs, rfl, _⟩ := hv
    exact ⟨cs, rfl⟩
  obtain ⟨cs, rfl⟩ := hagg
  obtain ⟨fuel, hf⟩ := h
  obtain ⟨g, s, e, hs, hok⟩ := trod_glyph hf
  refine ⟨g, ⟨s, ?_, hs⟩, hok⟩
  have : cs.toList = [.int .i64 g.w, .int .i64 g.h, s] := e
  rw [← this]
/-- a slice of bytes -/
theorem open_bytes {H : Type} {enc : TypeId × Value → H} {w : World} {b0 : Nat} {r : Reach} {v : Value} {d : DataW H} {p : List MemPlace}
    (hv : Value.okWide Try.prog w r b0 60 v) (h : DataW.Trod enc Try.prog w 0 (fun _ => true) true 60 v d p) : ∃ l : List Int, RY w v l ∧ ∀ n ∈ l, 0 ≤ n ∧ n ≤ 255 := by
  obtain ⟨a0, len, cap, rfl⟩ := okWide_slice Try.underlying60 hv
  obtain ⟨fuel, hf⟩ := h
  exact trod_bytes hf
end Go.Proofs.Ytfliniknaonieaa
