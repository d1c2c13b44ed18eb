/- rope: how the arguments of its laws are opened: an act, and slices of acts. -/
import Derived.Test.YtdhgombgbjldgaaDoorRopS
import Derived.Test.YtdhgombgbjldgaaDoorLaw
import Derived.OpenShut
import Derived.Deep.SlicePairs
namespace Go.Proofs.YtdhgombgbjldgaaDoor
set_option linter.unusedSimpArgs false
set_option linter.unusedVariables false
set_option linter.unusedSectionVars false
open Go.ChangeShapes Go.WideShapes Go.ChangeAt Go.RowKit Go.Deep

section
variable {H : Type} {enc : TypeId × Value → H} {w : World} {base : Nat} {spare : Nat → Bool} {held : Bool}
theorem zcellsI : Tryd.prog.cellsOf 3 = 1 := by kernel_rfl
theorem zcellsB : Tryd.prog.cellsOf 5 = 1 := by kernel_rfl
theorem zcellsBS : Tryd.prog.cellsOf 22 = 1 := by kernel_rfl
theorem zcellsA : Tryd.prog.cellsOf 65 = 4 := by kernel_rfl
set_option maxRecDepth 100000 in
/-- a row of bytes -/
theorem trod_by {fuel : Nat} {v : Value} {x : DataW H × List MemPlace} (h : DataW.trod enc Tryd.prog w base spare held fuel 22 [v] = some x) : ∃ l : List Int, RN .u8 w v l ∧ Bytes l := by
  rcases open_ints Tryd.underlying22 Tryd.underlying5 zcellsB h with ⟨hcs, _⟩ | ⟨a, len, cap, zs, hcs, _, hl, _, hz, _, hcell, hwf⟩
  · cases hcs
    exact ⟨[], ⟨none, 0, rfl, Nat.le_refl _, fun h => absurd h (by decide)⟩, fun n hn => by cases hn⟩
  · cases hcs
    have hge : len ≤ zs.length := by rw [hz]; split <;> omega
    have hlen : (zs.take len).length = len := by rw [List.length_take]; omega
    refine ⟨zs.take len, ⟨some a, cap, by rw [hlen], by rw [hlen]; exact hl, fun h0 => ?_⟩, fun n hn => bnd_u8 (hwf n (List.mem_of_mem_take hn))⟩
    rw [hlen] at h0
    obtain ⟨b, off, spot⟩ := a
    have hspot : spot = none := by simpa [Addr.add] using World.cell?_spot (hcell 0 (by omega))
    subst hspot
    have h00 := hcell 0 (by omega)
    rw [add_plain] at h00
    refine ⟨b, off, rfl, World.block_lt_of_cell? w ⟨b, off + 0, none⟩ h00, fun j hj => ?_⟩
    rw [hlen] at hj
    have := hcell j (by omega)
    rw [add_plain] at this
    rw [this]
    simp [List.getD_eq_getElem?_getD, show j < zs.length by omega]
set_option maxRecDepth 100000 in
/-- an act's four cells -/
theorem trod_act {fuel : Nat} {cs : List Value} {x : DataW H × List MemPlace} (h : DataW.trod enc Tryd.prog w base spare held fuel 65 cs = some x) : ∃ A : AM, cs = [.int .i64 A.kind, .int .i64 A.at_, .int .i64 A.n, A.v] ∧ A.Ok w := by
  obtain ⟨xs, m, _, _, hcl, hl, hi⟩ := DataW.trod_struct Tryd.underlying65 h
  have hlen : cs.length = 4 := hcl.trans zcellsA
  match cs, hlen, xs, hl with
  | [v0, v1, v2, v3], _, [x0, x1, x2, x3], _ =>
    have g0 := hi 0 _ rfl
    have g1 := hi 1 _ rfl
    have g2 := hi 2 _ rfl
    have g3 := hi 3 _ rfl
    simp [zcellsI, zcellsBS] at g0 g1 g2 g3
    obtain ⟨n0, e0, _, q0⟩ := DataW.trod_int Tryd.underlying3 g0
    obtain ⟨n1, e1, _, q1⟩ := DataW.trod_int Tryd.underlying3 g1
    obtain ⟨n2, e2, _, q2⟩ := DataW.trod_int Tryd.underlying3 g2
    obtain ⟨l, hl, hb⟩ := trod_by g3
    cases e0; cases e1; cases e2
    exact ⟨⟨n0, n1, n2, v3, l⟩, rfl, ⟨bnd_i64 q0, bnd_i64 q1, bnd_i64 q2, hl, hb⟩⟩
end
set_option maxRecDepth 100000 in
/-- an act by value -/
theorem open_act {H : Type} {enc : TypeId × Value → H} {w : World} {b0 : Nat} {r : Reach} {v : Value} {d : DataW H} {p : List MemPlace}
    (hv : Value.okWide Tryd.prog w r b0 65 v) (h : DataW.Trod enc Tryd.prog w 0 (fun _ => true) true 65 v d p) : ∃ A : AM, v = actV A ∧ A.Ok w := by
  have hagg : ∃ cs : Array Value, v = .agg cs := by
    unfold Value.okWide at hv
    rw [Tryd.underlying65] at hv
    obtain ⟨cs, rfl, _⟩ := hv
    exact ⟨cs, rfl⟩
  obtain ⟨cs, rfl⟩ := hagg
  obtain ⟨fuel, hf⟩ := h
  obtain ⟨A, e, hA⟩ := trod_act hf
  refine ⟨A, ?_, hA⟩
  unfold actV
  have : cs.toList = [.int .i64 A.kind, .int .i64 A.at_, .int .i64 A.n, A.v] := e
  rw [← this]
set_option maxRecDepth 100000 in
/-- a slice of acts -/
theorem open_acts {H : Type} {enc : TypeId × Value → H} {w : World} {b0 : Nat} {r : Reach} {v : Value} {d : DataW H} {p : List MemPlace}
    (hv : Value.okWide Tryd.prog w r b0 34 v) (h : DataW.Trod enc Tryd.prog w 0 (fun _ => true) true 34 v d p) : ∃ l : List AM, RAct w v l := by
  obtain ⟨a0, len, cap, rfl⟩ := okWide_slice Tryd.underlying34 hv
  obtain ⟨fuel, hf⟩ := h
  rcases open_slice Tryd.underlying34 hf with ⟨hcs, _⟩ | ⟨a, len', cap', m, n, D, Pl, hcs, _, hl, _, hm, _, hx⟩
  · simp [Value.cells] at hcs
    obtain ⟨rfl, rfl, rfl⟩ := hcs
    exact ⟨[], none, 0, rfl, fun j hj => absurd hj (Nat.not_lt_zero j), fun h => absurd h (by decide)⟩
  · simp [Value.cells] at hcs
    obtain ⟨rfl, rfl, rfl⟩ := hcs
    simp only [if_true] at hm
    have acts : ∀ i, i < len → ∃ A : AM, A.Ok w ∧ ∀ k, k < 4 → w.cell? (a.add (i * 4 + k)) = ([.int .i64 A.kind, .int .i64 A.at_, .int .i64 A.n, A.v] : List Value)[k]? := by
      intro i hi
      obtain ⟨cs', h1, h2⟩ := hx i (by omega)
      rw [zcellsA] at h1
      obtain ⟨_, hlen, hcell⟩ := World.cells?_some h1
      obtain ⟨A, e, hA⟩ := trod_act h2
      refine ⟨A, hA, fun k hk => ?_⟩
      have := hcell k hk
      rw [add_add] at this
      rw [this, e]
    have choice : ∃ f : Nat → AM, ∀ i, i < len → (f i).Ok w ∧ ∀ k, k < 4 → w.cell? (a.add (i * 4 + k)) = ([.int .i64 (f i).kind, .int .i64 (f i).at_, .int .i64 (f i).n, (f i).v] : List Value)[k]? :=
      ⟨fun i => if h : i < len then Classical.choose (acts i h) else ⟨0, 0, 0, .bool false, []⟩, fun i hi => by simp only [dif_pos hi]; exact Classical.choose_spec (acts i hi)⟩
    obtain ⟨f, hf2⟩ := choice
    have hlen : ((List.range len).map f).length = len := by simp
    refine ⟨(List.range len).map f, some a, cap, by rw [hlen], fun j hj => ?_, fun h0 => ?_⟩
    · simp only [List.getElem_map, List.getElem_range]
      exact (hf2 j (by rwa [hlen] at hj)).1
    · rw [hlen] at h0
      obtain ⟨b, off, spot⟩ := a
      have hspot : spot = none := by simpa [Addr.add] using World.cell?_spot ((hf2 0 h0).2 0 (by decide))
      subst hspot
      have h00 := (hf2 0 h0).2 0 (by decide)
      rw [add_plain] at h00
      refine ⟨b, off, rfl, World.block_lt_of_cell? w ⟨b, off + (0 * 4 + 0), none⟩ h00, fun j hj => ?_⟩
      have hj' : j < len := by rwa [hlen] at hj
      have e := (hf2 j hj').2
      simp only [add_plain] at e
      simp only [List.getElem_map, List.getElem_range]
      exact ⟨e 0 (by decide), e 1 (by decide), e 2 (by decide), e 3 (by decide)⟩
end Go.Proofs.YtdhgombgbjldgaaDoor
