/- what the proof stands on: ScnZ -/
import Derived.OpenShut
import Derived.Deep.SlicePairs
import Derived.Test.YtamhnffokoejjaaGreatDoorKnaw
import Derived.Test.YtamhnffokoejjaaGreatDoorKnaj
import Derived.Test.YtamhnffokoejjaaGreatDoorKnah
namespace Go.Proofs.YtamhnffokoejjaaGreatDoor
set_option linter.unusedSimpArgs false
set_option linter.unusedVariables false
set_option linter.unusedSectionVars false
open Go.ChangeShapes Go.WideShapes Go.ChangeAt Go.RowKit Go.Deep
section
variable {H : Type} {enc : TypeId × Value → H} {w : World} {base : Nat} {spare : Nat → Bool} {held : Bool}
theorem scellsI : Tryz.prog.cellsOf 3 = 1 := by kernel_rfl
theorem scellsB : Tryz.prog.cellsOf 5 = 1 := by kernel_rfl
theorem scellsBS : Tryz.prog.cellsOf 22 = 1 := by kernel_rfl
theorem scellsRS : Tryz.prog.cellsOf 35 = 1 := by kernel_rfl
theorem scellsSS : Tryz.prog.cellsOf 36 = 1 := by kernel_rfl
theorem scellsA : Tryz.prog.cellsOf 38 = 7 := by kernel_rfl
set_option maxRecDepth 100000 in
theorem trod_bys {fuel : Nat} {v : Value} {x : DataW H × List MemPlace} (h : DataW.trod enc Tryz.prog w base spare held fuel 22 [v] = some x) : ∃ l : List Int, RN .u8 w v l ∧ Bytes l := by
  rcases open_ints Tryz.underlying22 Tryz.underlying5 scellsB h with ⟨hcs, _⟩ | ⟨a, len, cap, zs, hcs, _, hl, _, hz, _, hcell, hwf⟩
  · cases hcs
    exact ⟨[], ⟨none, 0, rfl, Nat.le_refl _, fun h => absurd h (by decide)⟩, fun n hn => by cases hn⟩
  · cases hcs
    have hge : len ≤ zs.length := by rw [hz]; split <;> omega
    have hlen : (zs.take len).length = len := by rw [List.length_take]; omega
    refine ⟨zs.take len, ⟨some a, cap, by rw [hlen], by rw [hlen]; exact hl, fun h0 => ?_⟩, fun n hn => bnd_u8 (hwf n (List.mem_of_mem_take hn))⟩
    rw [hlen] at h0
    obtain ⟨b, off, spot⟩ := a
    have hspot : spot = none := by simpa [Addr.add] using World.cell?_spot (hcell 0 (by omega))
    subst hspot
    have h00 := hcell 0 (by omega)
    rw [add_plain] at h00
    refine ⟨b, off, rfl, World.block_lt_of_cell? w ⟨b, off + 0, none⟩ h00, fun j hj => ?_⟩
    rw [hlen] at hj
    have := hcell j (by omega)
    rw [add_plain] at this
    rw [this]
    simp [List.getD_eq_getElem?_getD, show j < zs.length by omega]
set_option maxRecDepth 100000 in
theorem trod_runs2 {fuel : Nat} {v : Value} {x : DataW H × List MemPlace} (h : DataW.trod enc Tryz.prog w base spare held fuel 35 [v] = some x) : ∃ l : Qs, QR w v l ∧ ∀ r ∈ l, I64s r.1 ∧ I64s r.2 := by
  rcases open_slice_pairs Tryz.underlying35 Tryz.underlying76 (by kernel_rfl) rfl rfl (by kernel_rfl) (by kernel_rfl) h with ⟨hcs, _⟩ | ⟨a, len, cap, m, n, V0, V1, D0, D1, P0, P1, hcs, _, hl, hm, hmm, _, hcell⟩
  · cases hcs
    exact ⟨[], ⟨none, 0, rfl, Nat.le_refl _, fun h => absurd h (by decide)⟩, fun r hr => by cases hr⟩
  · cases hcs
    have hge : len ≤ m := by rw [hmm]; split <;> omega
    have nums : ∀ i, i < len → ∃ x y : Int, (w.cell? (a.add (i * 2)) = some (.int .i64 x) ∧ w.cell? (a.add (i * 2 + 1)) = some (.int .i64 y)) ∧ I64s x ∧ I64s y := by
      intro i hi
      obtain ⟨h1, h2, h3, h4⟩ := hcell i (by omega)
      obtain ⟨x, ex, _, wx⟩ := DataW.trod_int Tryz.underlying3 h3
      obtain ⟨y, ey, _, wy⟩ := DataW.trod_int Tryz.underlying3 h4
      have ex : V0 i = .int .i64 x := by simpa using ex
      have ey : V1 i = .int .i64 y := by simpa using ey
      exact ⟨x, y, ⟨by rw [h1, ex], by rw [h2, ey]⟩, bnd_i64 wx, bnd_i64 wy⟩
    have choice : ∃ f : Nat → Int × Int, ∀ i, i < len → (w.cell? (a.add (i * 2)) = some (.int .i64 (f i).1) ∧ w.cell? (a.add (i * 2 + 1)) = some (.int .i64 (f i).2)) ∧ I64s (f i).1 ∧ I64s (f i).2 := by
      refine ⟨fun i => if h : i < len then (Classical.choose (nums i h), Classical.choose (Classical.choose_spec (nums i h))) else (0, 0), fun i hi => ?_⟩
      simp only [dif_pos hi]
      exact Classical.choose_spec (Classical.choose_spec (nums i hi))
    obtain ⟨f, hf2⟩ := choice
    have hlen : ((List.range len).map f).length = len := by simp
    refine ⟨(List.range len).map f, ⟨some a, cap, by rw [hlen], by rw [hlen]; exact hl, fun h0 => ?_⟩, fun r hr => by
      obtain ⟨i, hi, rfl⟩ := List.mem_map.1 hr
      exact (hf2 i (List.mem_range.1 hi)).2⟩
    rw [hlen] at h0
    obtain ⟨b, off, spot⟩ := a
    have hspot : spot = none := by simpa [Addr.add] using World.cell?_spot (hf2 0 h0).1.1
    subst hspot
    have hb : b < w.heap.size := World.block_lt_of_cell? w ⟨b, off, none⟩ (by have := (hf2 0 h0).1.1; rwa [add_plain] at this)
    refine ⟨b, off, rfl, hb, fun j hj => ?_⟩
    have hj' : j < len := by rwa [hlen] at hj
    have := (hf2 j hj').1
    rw [add_plain, add_plain] at this
    simp only [List.getElem_map, List.getElem_range]
    exact this
set_option maxRecDepth 100000 in
theorem trod_spans2 {fuel : Nat} {v : Value} {x : DataW H × List MemPlace} (h : DataW.trod enc Tryz.prog w base spare held fuel 36 [v] = some x) : ∃ l : Qs, QR w v l ∧ ∀ r ∈ l, I64s r.1 ∧ I64s r.2 := by
  rcases open_slice_pairs Tryz.underlying36 Tryz.underlying69 (by kernel_rfl) rfl rfl (by kernel_rfl) (by kernel_rfl) h with ⟨hcs, _⟩ | ⟨a, len, cap, m, n, V0, V1, D0, D1, P0, P1, hcs, _, hl, hm, hmm, _, hcell⟩
  · cases hcs
    exact ⟨[], ⟨none, 0, rfl, Nat.le_refl _, fun h => absurd h (by decide)⟩, fun r hr => by cases hr⟩
  · cases hcs
    have hge : len ≤ m := by rw [hmm]; split <;> omega
    have nums : ∀ i, i < len → ∃ x y : Int, (w.cell? (a.add (i * 2)) = some (.int .i64 x) ∧ w.cell? (a.add (i * 2 + 1)) = some (.int .i64 y)) ∧ I64s x ∧ I64s y := by
      intro i hi
      obtain ⟨h1, h2, h3, h4⟩ := hcell i (by omega)
      obtain ⟨x, ex, _, wx⟩ := DataW.trod_int Tryz.underlying3 h3
      obtain ⟨y, ey, _, wy⟩ := DataW.trod_int Tryz.underlying3 h4
      have ex : V0 i = .int .i64 x := by simpa using ex
      have ey : V1 i = .int .i64 y := by simpa using ey
      exact ⟨x, y, ⟨by rw [h1, ex], by rw [h2, ey]⟩, bnd_i64 wx, bnd_i64 wy⟩
    have choice : ∃ f : Nat → Int × Int, ∀ i, i < len → (w.cell? (a.add (i * 2)) = some (.int .i64 (f i).1) ∧ w.cell? (a.add (i * 2 + 1)) = some (.int .i64 (f i).2)) ∧ I64s (f i).1 ∧ I64s (f i).2 := by
      refine ⟨fun i => if h : i < len then (Classical.choose (nums i h), Classical.choose (Classical.choose_spec (nums i h))) else (0, 0), fun i hi => ?_⟩
      simp only [dif_pos hi]
      exact Classical.choose_spec (Classical.choose_spec (nums i hi))
    obtain ⟨f, hf2⟩ := choice
    have hlen : ((List.range len).map f).length = len := by simp
    refine ⟨(List.range len).map f, ⟨some a, cap, by rw [hlen], by rw [hlen]; exact hl, fun h0 => ?_⟩, fun r hr => by
      obtain ⟨i, hi, rfl⟩ := List.mem_map.1 hr
      exact (hf2 i (List.mem_range.1 hi)).2⟩
    rw [hlen] at h0
    obtain ⟨b, off, spot⟩ := a
    have hspot : spot = none := by simpa [Addr.add] using World.cell?_spot (hf2 0 h0).1.1
    subst hspot
    have hb : b < w.heap.size := World.block_lt_of_cell? w ⟨b, off, none⟩ (by have := (hf2 0 h0).1.1; rwa [add_plain] at this)
    refine ⟨b, off, rfl, hb, fun j hj => ?_⟩
    have hj' : j < len := by rwa [hlen] at hj
    have := (hf2 j hj').1
    rw [add_plain, add_plain] at this
    simp only [List.getElem_map, List.getElem_range]
    exact this
set_option maxRecDepth 100000 in
theorem trod_sact {fuel : Nat} {cs : List Value} {x : DataW H × List MemPlace} (h : DataW.trod enc Tryz.prog w base spare held fuel 38 cs = some x) : ∃ A : SAM, cs = sactL A ∧ SAM.Ok w A := by
  obtain ⟨xs, m, _, _, hcl, hl, hi⟩ := DataW.trod_struct Tryz.underlying38 h
  have hlen : cs.length = 7 := hcl.trans scellsA
  match cs, hlen, xs, hl with
  | [v0, v1, v2, v3, v4, v5, v6], _, [x0, x1, x2, x3, x4, x5, x6], _ =>
    have g0 := hi 0 _ rfl
    have g1 := hi 1 _ rfl
    have g2 := hi 2 _ rfl
    have g3 := hi 3 _ rfl
    have g4 := hi 4 _ rfl
    have g5 := hi 5 _ rfl
    have g6 := hi 6 _ rfl
    simp [scellsI, scellsBS, scellsRS, scellsSS] at g0 g1 g2 g3 g4 g5 g6
    obtain ⟨n0, e0, _, _⟩ := DataW.trod_int Tryz.underlying3 g0
    obtain ⟨n1, e1, _, q1⟩ := DataW.trod_int Tryz.underlying3 g1
    obtain ⟨n2, e2, _, q2⟩ := DataW.trod_int Tryz.underlying3 g2
    obtain ⟨n3, e3, _, q3⟩ := DataW.trod_int Tryz.underlying3 g3
    obtain ⟨b, hb, hbb⟩ := trod_bys g4
    obtain ⟨l, hl2, hln⟩ := trod_runs2 g5
    obtain ⟨f, hf, -⟩ := trod_spans2 g6
    cases e0; cases e1; cases e2; cases e3
    exact ⟨⟨n0, n1, n2, n3, v4, v5, v6, b, l, f⟩, rfl, ⟨hb, hbb, hl2, hln, hf, bnd_i64 q1, bnd_i64 q2, bnd_i64 q3⟩⟩
end
set_option maxRecDepth 100000 in
theorem open_act {H : Type} {enc : TypeId × Value → H} {w : World} {b0 : Nat} {r : Reach} {v : Value} {d : DataW H} {p : List MemPlace}
    (hv : Value.okWide Tryz.prog w r b0 38 v) (h : DataW.Trod enc Tryz.prog w 0 (fun _ => true) true 38 v d p) : ∃ A : SAM, v = sactV A ∧ SAM.Ok w A := by
  have hagg : ∃ cs : Array Value, v = .agg cs := by
    unfold Value.okWide at hv
    rw [Tryz.underlying38] at hv
    obtain ⟨cs, rfl, _⟩ := hv
    exact ⟨cs, rfl⟩
  obtain ⟨cs, rfl⟩ := hagg
  obtain ⟨fuel, hf⟩ := h
  obtain ⟨A, e, hA⟩ := trod_sact hf
  refine ⟨A, ?_, hA⟩
  unfold sactV
  rw [← e]
  rfl
end Go.Proofs.YtamhnffokoejjaaGreatDoor
