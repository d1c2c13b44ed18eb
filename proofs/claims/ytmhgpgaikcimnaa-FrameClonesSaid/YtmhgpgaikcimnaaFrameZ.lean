/- frame: how the arguments of its laws are opened: an act, and slices of acts. -/
import Derived.Test.YtmhgpgaikcimnaaFrameK
import Derived.Test.YtmhgpgaikcimnaaLaw
import Derived.OpenShut
import Derived.Deep.SlicePairs
namespace Go.Proofs.Ytmhgpgaikcimnaa
set_option linter.unusedSimpArgs false
set_option linter.unusedVariables false
set_option linter.unusedSectionVars false
open Go.ChangeShapes Go.WideShapes Go.ChangeAt Go.RowKit Go.Deep

section
variable {H : Type} {enc : TypeId × Value → H} {w : World} {base : Nat} {spare : Nat → Bool} {held : Bool}
theorem cellsI : Try.prog.cellsOf 3 = 1 := by kernel_rfl
theorem cellsU : Try.prog.cellsOf 33 = 1 := by kernel_rfl
theorem cellsUS : Try.prog.cellsOf 34 = 1 := by kernel_rfl
theorem cellsR : Try.prog.cellsOf 32 = 4 := by kernel_rfl
theorem cellsA : Try.prog.cellsOf 36 = 8 := by kernel_rfl
theorem flatR : flatK Try.prog 8 32 = some [some .i64, some .i64, some .i64, some .i64] := by kernel_rfl
/-- a row of pixels -/
theorem trod_ru {fuel : Nat} {v : Value} {x : DataW H × List MemPlace} (h : DataW.trod enc Try.prog w base spare held fuel 34 [v] = some x) : ∃ l : List Int, RU w v l := by
  rcases open_ints Try.underlying34 Try.underlying33 cellsU h with ⟨hcs, _⟩ | ⟨a, len, cap, zs, hcs, _, hl, _, hz, _, hcell, _⟩
  · cases hcs
    exact ⟨[], none, 0, rfl, Nat.le_refl _, fun h => absurd h (by decide)⟩
  · cases hcs
    have hge : len ≤ zs.length := by rw [hz]; split <;> omega
    have hlen : (zs.take len).length = len := by rw [List.length_take]; omega
    refine ⟨zs.take len, some a, cap, by rw [hlen], by rw [hlen]; exact hl, fun h0 => ?_⟩
    rw [hlen] at h0
    obtain ⟨b, off, spot⟩ := a
    have hspot : spot = none := by simpa [Addr.add] using World.cell?_spot (hcell 0 (by omega))
    subst hspot
    have h00 := hcell 0 (by omega)
    rw [add_plain] at h00
    refine ⟨b, off, rfl, World.block_lt_of_cell? w ⟨b, off + 0, none⟩ h00, fun j hj => ?_⟩
    rw [hlen] at hj
    have := hcell j (by omega)
    rw [add_plain] at this
    rw [this]
    simp [List.getD_eq_getElem?_getD, show j < zs.length by omega]
/-- an act's eight cells -/
theorem trod_act {fuel : Nat} {cs : List Value} {x : DataW H × List MemPlace} (h : DataW.trod enc Try.prog w base spare held fuel 36 cs = some x) : ∃ A : AM, cs = [.int .i64 A.kind, .int .i64 A.n, .int .i64 A.r.x, .int .i64 A.r.y, .int .i64 A.r.a, .int .i64 A.r.b, .int .u32 A.c, A.v] ∧ A.Ok w := by
  obtain ⟨xs, m, _, _, hcl, hl, hi⟩ := DataW.trod_struct Try.underlying36 h
  have hlen : cs.length = 8 := hcl.trans cellsA
  match cs, hlen, xs, hl with
  | [v0, v1, v2, v3, v4, v5, v6, v7], _, [x0, x1, x2, x3, x4], _ =>
    have g0 := hi 0 _ rfl
    have g1 := hi 1 _ rfl
    have g2 := hi 2 _ rfl
    have g3 := hi 3 _ rfl
    have g4 := hi 4 _ rfl
    simp [cellsI, cellsU, cellsUS, cellsR] at g0 g1 g2 g3 g4
    obtain ⟨n0, e0, _, q0⟩ := DataW.trod_int Try.underlying3 g0
    obtain ⟨n1, e1, _, q1⟩ := DataW.trod_int Try.underlying3 g1
    have g2' := (flat_said 8 32 _ _ _ _ flatR g2).1
    obtain ⟨_, _, e2, ⟨a0, rfl, w0⟩, _, _, rfl, ⟨a1, rfl, w1⟩, _, _, rfl, ⟨a2, rfl, w2⟩, _, _, rfl, ⟨a3, rfl, w3⟩, rfl⟩ := g2'
    obtain ⟨n3, e3, _, q3⟩ := DataW.trod_int Try.underlying33 g3
    obtain ⟨l, hl⟩ := trod_ru g4
    cases e0; cases e1; cases e2; cases e3
    exact ⟨⟨n0, n1, ⟨a0, a1, a2, a3⟩, n3, v7, l⟩, rfl, ⟨bnd_i64 q0, bnd_i64 q1, ⟨bnd_i64 w0, bnd_i64 w1, bnd_i64 w2, bnd_i64 w3⟩, bnd_u32 q3, hl⟩⟩
end
/-- an act by value -/
theorem open_act {H : Type} {enc : TypeId × Value → H} {w : World} {b0 : Nat} {r : Reach} {v : Value} {d : DataW H} {p : List MemPlace}
    (hv : Value.okWide Try.prog w r b0 36 v) (h : DataW.Trod enc Try.prog w 0 (fun _ => true) true 36 v d p) : ∃ A : AM, v = actV A ∧ A.Ok w := by
  have hagg : ∃ cs : Array Value, v = .agg cs := by
    unfold Value.okWide at hv
    rw [Try.underlying36] at hv
    obtain ⟨cs, rfl, _⟩ := hv
    exact ⟨cs, rfl⟩
  obtain ⟨cs, rfl⟩ := hagg
  obtain ⟨fuel, hf⟩ := h
  obtain ⟨A, e, hA⟩ := trod_act hf
  refine ⟨A, ?_, hA⟩
  unfold actV
  have : cs.toList = [.int .i64 A.kind, .int .i64 A.n, .int .i64 A.r.x, .int .i64 A.r.y, .int .i64 A.r.a, .int .i64 A.r.b, .int .u32 A.c, A.v] := e
  rw [← this]
/-- a slice of acts -/
theorem open_acts {H : Type} {enc : TypeId × Value → H} {w : World} {b0 : Nat} {r : Reach} {v : Value} {d : DataW H} {p : List MemPlace}
    (hv : Value.okWide Try.prog w r b0 22 v) (h : DataW.Trod enc Try.prog w 0 (fun _ => true) true 22 v d p) : ∃ l : List AM, RA w v l := by
  obtain ⟨a0, len, cap, rfl⟩ := okWide_slice Try.underlying22 hv
  obtain ⟨fuel, hf⟩ := h
  rcases open_slice Try.underlying22 hf with ⟨hcs, _⟩ | ⟨a, len', cap', m, n, D, Pl, hcs, _, hl, _, hm, _, hx⟩
  · simp [Value.cells] at hcs
    obtain ⟨rfl, rfl, rfl⟩ := hcs
    exact ⟨[], ⟨none, 0, rfl, fun h => absurd h (by decide)⟩, fun j hj => absurd hj (Nat.not_lt_zero j)⟩
  · simp [Value.cells] at hcs
    obtain ⟨rfl, rfl, rfl⟩ := hcs
    simp only [if_true] at hm
    have acts : ∀ i, i < len → ∃ A : AM, A.Ok w ∧ ∀ k, k < 8 → w.cell? (a.add (i * 8 + k)) = ([.int .i64 A.kind, .int .i64 A.n, .int .i64 A.r.x, .int .i64 A.r.y, .int .i64 A.r.a, .int .i64 A.r.b, .int .u32 A.c, A.v] : List Value)[k]? := by
      intro i hi
      obtain ⟨cs', h1, h2⟩ := hx i (by omega)
      rw [cellsA] at h1
      obtain ⟨_, hlen, hcell⟩ := World.cells?_some h1
      obtain ⟨A, e, hA⟩ := trod_act h2
      refine ⟨A, hA, fun k hk => ?_⟩
      have := hcell k hk
      rw [add_add] at this
      rw [this, e]
    have choice : ∃ f : Nat → AM, ∀ i, i < len → (f i).Ok w ∧ ∀ k, k < 8 → w.cell? (a.add (i * 8 + k)) = ([.int .i64 (f i).kind, .int .i64 (f i).n, .int .i64 (f i).r.x, .int .i64 (f i).r.y, .int .i64 (f i).r.a, .int .i64 (f i).r.b, .int .u32 (f i).c, (f i).v] : List Value)[k]? :=
      ⟨fun i => if h : i < len then Classical.choose (acts i h) else ⟨0, 0, ⟨0, 0, 0, 0⟩, 0, .bool false, []⟩, fun i hi => by simp only [dif_pos hi]; exact Classical.choose_spec (acts i hi)⟩
    obtain ⟨f, hf2⟩ := choice
    have hlen : ((List.range len).map f).length = len := by simp
    refine ⟨(List.range len).map f, ⟨some a, cap, by rw [hlen], fun h0 => ?_⟩, fun j hj => ?_⟩
    · rw [hlen] at h0
      obtain ⟨b, off, spot⟩ := a
      have hspot : spot = none := by simpa [Addr.add] using World.cell?_spot ((hf2 0 h0).2 0 (by decide))
      subst hspot
      have h00 := (hf2 0 h0).2 0 (by decide)
      rw [add_plain] at h00
      refine ⟨b, off, rfl, World.block_lt_of_cell? w ⟨b, off + (0 * 8 + 0), none⟩ h00, fun j hj => ?_⟩
      have hj' : j < len := by rwa [hlen] at hj
      have e := (hf2 j hj').2
      simp only [add_plain] at e
      simp only [List.getElem_map, List.getElem_range]
      exact ⟨e 0 (by decide), e 1 (by decide), e 2 (by decide), e 3 (by decide), e 4 (by decide), e 5 (by decide), e 6 (by decide), e 7 (by decide)⟩
    · simp only [List.getElem_map, List.getElem_range]
      exact (hf2 j (by rwa [hlen] at hj)).1
end Go.Proofs.Ytmhgpgaikcimnaa
