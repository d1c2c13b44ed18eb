/- heights: how the arguments of its laws are opened: an act, and slices of acts. -/
import Derived.Test.YtjoadlfkdkeomaaHgtX
import Derived.Test.YtjoadlfkdkeomaaPairZ
import Derived.OpenShut
import Derived.Deep.SlicePairs
namespace Go.Proofs.Ytjoadlfkdkeomaa
set_option linter.unusedSimpArgs false
set_option linter.unusedVariables false
set_option linter.unusedSectionVars false
open Go.ChangeShapes Go.WideShapes Go.ChangeAt Go.RowKit Go.Deep

/-- what is known of an act -/
def HAM.Ok (w : World) (A : HAM) : Prop := QR w A.v A.l ∧ -9223372036854775808 ≤ A.i ∧ A.n ≤ 9223372036854775807

section
variable {H : Type} {enc : TypeId × Value → H} {w : World} {base : Nat} {spare : Nat → Bool} {held : Bool}
theorem qcellsI : Try.prog.cellsOf 3 = 1 := by kernel_rfl
theorem qcellsT : Try.prog.cellsOf 33 = 2 := by kernel_rfl
theorem qcellsS : Try.prog.cellsOf 22 = 1 := by kernel_rfl
theorem qcellsB : Try.prog.cellsOf 4 = 1 := by kernel_rfl
theorem qcellsA : Try.prog.cellsOf 35 = 7 := by kernel_rfl
set_option maxRecDepth 100000 in
/-- a row of heights -/
theorem trod_talls {fuel : Nat} {v : Value} {x : DataW H × List MemPlace} (h : DataW.trod enc Try.prog w base spare held fuel 22 [v] = some x) : ∃ l : Qs, QR w v l := by
  rcases open_slice_pairs Try.underlying22 Try.underlying33 (by kernel_rfl) rfl rfl (by kernel_rfl) (by kernel_rfl) h with ⟨hcs, _⟩ | ⟨a, len, cap, m, n, V0, V1, D0, D1, P0, P1, hcs, _, hl, hm, hmm, _, hcell⟩
  · cases hcs
    exact ⟨[], ⟨none, 0, rfl, Nat.le_refl _, fun h => absurd h (by decide)⟩⟩
  · cases hcs
    have hge : len ≤ m := by rw [hmm]; split <;> omega
    have nums : ∀ i, i < len → ∃ x y : Int, w.cell? (a.add (i * 2)) = some (.int .i64 x) ∧ w.cell? (a.add (i * 2 + 1)) = some (.int .i64 y) := by
      intro i hi
      obtain ⟨h1, h2, h3, h4⟩ := hcell i (by omega)
      obtain ⟨x, ex, _, wx⟩ := DataW.trod_int Try.underlying3 h3
      obtain ⟨y, ey, _, wy⟩ := DataW.trod_int Try.underlying3 h4
      have ex : V0 i = .int .i64 x := by simpa using ex
      have ey : V1 i = .int .i64 y := by simpa using ey
      exact ⟨x, y, by rw [h1, ex], by rw [h2, ey]⟩
    have choice : ∃ f : Nat → Int × Int, ∀ i, i < len → w.cell? (a.add (i * 2)) = some (.int .i64 (f i).1) ∧ w.cell? (a.add (i * 2 + 1)) = some (.int .i64 (f i).2) := by
      refine ⟨fun i => if h : i < len then (Classical.choose (nums i h), Classical.choose (Classical.choose_spec (nums i h))) else (0, 0), fun i hi => ?_⟩
      simp only [dif_pos hi]
      exact Classical.choose_spec (Classical.choose_spec (nums i hi))
    obtain ⟨f, hf2⟩ := choice
    have hlen : ((List.range len).map f).length = len := by simp
    refine ⟨(List.range len).map f, some a, cap, by rw [hlen], by rw [hlen]; exact hl, fun h0 => ?_⟩
    rw [hlen] at h0
    obtain ⟨b, off, spot⟩ := a
    have hspot : spot = none := by simpa [Addr.add] using World.cell?_spot (hf2 0 h0).1
    subst hspot
    have hb : b < w.heap.size := World.block_lt_of_cell? w ⟨b, off, none⟩ (by have := (hf2 0 h0).1; rwa [add_plain] at this)
    refine ⟨b, off, rfl, hb, fun j hj => ?_⟩
    have hj' : j < len := by rwa [hlen] at hj
    have := hf2 j hj'
    rw [add_plain, add_plain] at this
    simp only [List.getElem_map, List.getElem_range]
    exact this
set_option maxRecDepth 100000 in
/-- an act's seven cells -/
theorem trod_hact {fuel : Nat} {cs : List Value} {x : DataW H × List MemPlace} (h : DataW.trod enc Try.prog w base spare held fuel 35 cs = some x) : ∃ A : HAM, cs = [.int .i64 A.kind, .int .i64 A.i, .int .i64 A.n, .int .i64 A.x, .int .i64 A.y, A.v, .bool A.on] ∧ HAM.Ok w A := by
  obtain ⟨xs, m, _, _, hcl, hl, hi⟩ := DataW.trod_struct Try.underlying35 h
  have hlen : cs.length = 7 := hcl.trans qcellsA
  match cs, hlen, xs, hl with
  | [v0, v1, v2, v3, v4, v5, v6], _, [x0, x1, x2, x3, x4, x5], _ =>
    have g0 := hi 0 _ rfl
    have g1 := hi 1 _ rfl
    have g2 := hi 2 _ rfl
    have g3 := hi 3 _ rfl
    have g4 := hi 4 _ rfl
    have g5 := hi 5 _ rfl
    simp [qcellsI, qcellsT, qcellsS, qcellsB] at g0 g1 g2 g3 g4 g5
    obtain ⟨n0, e0, _, _⟩ := DataW.trod_int Try.underlying3 g0
    obtain ⟨n1, e1, _, q1⟩ := DataW.trod_int Try.underlying3 g1
    obtain ⟨n2, e2, _, q2⟩ := DataW.trod_int Try.underlying3 g2
    obtain ⟨l, hl⟩ := trod_talls g4
    obtain ⟨b6, e6, _⟩ := DataW.trod_bool Try.underlying4 g5
    obtain ⟨ys, k, _, _, hcl2, hl2, hi2⟩ := DataW.trod_struct Try.underlying33 g3
    match ys, hl2 with
    | [y0, y1], _ =>
      have j0 := hi2 0 _ rfl
      have j1 := hi2 1 _ rfl
      simp [qcellsI] at j0 j1
      obtain ⟨n3, e3, _, _⟩ := DataW.trod_int Try.underlying3 j0
      obtain ⟨n4, e4, _, _⟩ := DataW.trod_int Try.underlying3 j1
      cases e0; cases e1; cases e2; cases e3; cases e4; cases e6
      exact ⟨⟨n0, n1, n2, n3, n4, v5, l, b6⟩, rfl, ⟨hl, (bnd_i64 q1).1, (bnd_i64 q2).2⟩⟩
end
set_option maxRecDepth 100000 in
/-- an act by value -/
theorem open_act {H : Type} {enc : TypeId × Value → H} {w : World} {b0 : Nat} {r : Reach} {v : Value} {d : DataW H} {p : List MemPlace}
    (hv : Value.okWide Try.prog w r b0 35 v) (h : DataW.Trod enc Try.prog w 0 (fun _ => true) true 35 v d p) : ∃ A : HAM, v = hactV A ∧ HAM.Ok w A := by
  have hagg : ∃ cs : Array Value, v = .agg cs := by
    unfold Value.okWide at hv
    rw [Try.underlying35] at hv
    obtain ⟨cs, rfl, _⟩ := hv
    exact ⟨cs, rfl⟩
  obtain ⟨cs, rfl⟩ := hagg
  obtain ⟨fuel, hf⟩ := h
  obtain ⟨A, e, hA⟩ := trod_hact hf
  refine ⟨A, ?_, hA⟩
  unfold hactV
  have : cs.toList = [.int .i64 A.kind, .int .i64 A.i, .int .i64 A.n, .int .i64 A.x, .int .i64 A.y, A.v, .bool A.on] := e
  rw [← this]
set_option maxRecDepth 100000 in
/-- a slice of acts -/
theorem open_acts {H : Type} {enc : TypeId × Value → H} {w : World} {b0 : Nat} {r : Reach} {v : Value} {d : DataW H} {p : List MemPlace}
    (hv : Value.okWide Try.prog w r b0 23 v) (h : DataW.Trod enc Try.prog w 0 (fun _ => true) true 23 v d p) : ∃ l : List HAM, HAcS w v l := by
  obtain ⟨a0, len, cap, rfl⟩ := okWide_slice Try.underlying23 hv
  obtain ⟨fuel, hf⟩ := h
  rcases open_slice Try.underlying23 hf with ⟨hcs, _⟩ | ⟨a, len', cap', m, n, D, Pl, hcs, _, hl, _, hm, _, hx⟩
  · simp [Value.cells] at hcs
    obtain ⟨rfl, rfl, rfl⟩ := hcs
    exact ⟨[], none, 0, rfl, fun j hj => absurd hj (Nat.not_lt_zero j), fun h => absurd h (by decide)⟩
  · simp [Value.cells] at hcs
    obtain ⟨rfl, rfl, rfl⟩ := hcs
    simp only [if_true] at hm
    have acts : ∀ i, i < len → ∃ A : HAM, QR w A.v A.l ∧ ∀ k, k < 7 → w.cell? (a.add (i * 7 + k)) = ([.int .i64 A.kind, .int .i64 A.i, .int .i64 A.n, .int .i64 A.x, .int .i64 A.y, A.v, .bool A.on] : List Value)[k]? := by
      intro i hi
      obtain ⟨cs', h1, h2⟩ := hx i (by omega)
      rw [qcellsA] at h1
      obtain ⟨_, hlen, hcell⟩ := World.cells?_some h1
      obtain ⟨A, e, hA⟩ := trod_hact h2
      refine ⟨A, hA.1, fun k hk => ?_⟩
      have := hcell k hk
      rw [add_add] at this
      rw [this, e]
    have choice : ∃ f : Nat → HAM, ∀ i, i < len → QR w (f i).v (f i).l ∧ ∀ k, k < 7 → w.cell? (a.add (i * 7 + k)) = ([.int .i64 (f i).kind, .int .i64 (f i).i, .int .i64 (f i).n, .int .i64 (f i).x, .int .i64 (f i).y, (f i).v, .bool (f i).on] : List Value)[k]? :=
      ⟨fun i => if h : i < len then Classical.choose (acts i h) else ⟨0, 0, 0, 0, 0, .bool false, [], false⟩, fun i hi => by simp only [dif_pos hi]; exact Classical.choose_spec (acts i hi)⟩
    obtain ⟨f, hf2⟩ := choice
    have hlen : ((List.range len).map f).length = len := by simp
    refine ⟨(List.range len).map f, some a, cap, by rw [hlen], fun j hj => ?_, fun h0 => ?_⟩
    · simp only [List.getElem_map, List.getElem_range]
      exact (hf2 j (by rwa [hlen] at hj)).1
    · rw [hlen] at h0
      obtain ⟨b, off, spot⟩ := a
      have hspot : spot = none := by simpa [Addr.add] using World.cell?_spot ((hf2 0 h0).2 0 (by decide))
      subst hspot
      have h00 := (hf2 0 h0).2 0 (by decide)
      rw [add_plain] at h00
      refine ⟨b, off, rfl, World.block_lt_of_cell? w ⟨b, off + (0 * 7 + 0), none⟩ h00, fun j hj => ?_⟩
      have hj' : j < len := by rwa [hlen] at hj
      have e := (hf2 j hj').2
      simp only [add_plain] at e
      simp only [List.getElem_map, List.getElem_range]
      exact ⟨e 0 (by decide), e 1 (by decide), e 2 (by decide), e 3 (by decide), e 4 (by decide), e 5 (by decide), e 6 (by decide)⟩
end Go.Proofs.Ytjoadlfkdkeomaa
