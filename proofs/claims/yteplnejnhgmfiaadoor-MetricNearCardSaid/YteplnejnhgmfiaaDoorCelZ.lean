/- cells: how an argument is opened that is a slice of cells. -/
import Derived.Test.YteplnejnhgmfiaaDoorCelA
import Derived.Test.YteplnejnhgmfiaaDoorFlatZ
namespace Go.Proofs.YteplnejnhgmfiaaDoor
set_option linter.unusedSimpArgs false
set_option linter.unusedVariables false
set_option linter.unusedSectionVars false
open Go.ChangeShapes Go.WideShapes Go.ChangeAt Go.RowKit Go.Deep

theorem bnd_i32c {x : Int} (h : (Lit.int .i32 x).wf = true) : I32s x := by
  have := bnd_i32 h
  constructor <;> omega
set_option maxRecDepth 100000 in
theorem trod_cels {H : Type} {enc : TypeId × Value → H} {w : World} {base : Nat} {spare : Nat → Bool} {held : Bool} {fuel : Nat} {v : Value} {x : DataW H × List MemPlace}
    (h : DataW.trod enc Tryd.prog w base spare held fuel 41 [v] = some x) : ∃ l : Cels, FR celF w v l ∧ CelsOk l := by
  rcases trod_flats [.i64, .i64, .i32, .i64] Tryd.underlying41 Tryd.underlying63 (by kernel_rfl) ⟨⟨rfl, by kernel_rfl, by kernel_rfl⟩, ⟨rfl, by kernel_rfl, by kernel_rfl⟩, ⟨rfl, by kernel_rfl, by kernel_rfl⟩, ⟨rfl, by kernel_rfl, by kernel_rfl⟩, trivial⟩ h with rfl | ⟨a, len, cap, f, rfl, hlc, hc⟩
  · exact ⟨[], FR.void _ _ _, fun c hc => by cases hc⟩
  · refine ⟨(List.range len).map fun i => (f i 0, f i 1, f i 2, f i 3), fr_of_cells _ (by simp) hlc (fun j hj i x hx => ?_), fun c hcm => ?_⟩
    · have hj' : j < len := by simpa using hj
      simp only [List.getElem_map, List.getElem_range] at hx
      have h0 := hc j hj'
      match i, hx with
      | 0, hx => cases hx; exact (h0 0 .i64 rfl).1
      | 1, hx => cases hx; exact (h0 1 .i64 rfl).1
      | 2, hx => cases hx; exact (h0 2 .i32 rfl).1
      | 3, hx => cases hx; exact (h0 3 .i64 rfl).1
      | n + 4, hx => cases hx
    · obtain ⟨i, hi, rfl⟩ := List.mem_map.1 hcm
      have h0 := hc i (List.mem_range.1 hi)
      exact ⟨bnd_i64 (h0 0 .i64 rfl).2, bnd_i64 (h0 1 .i64 rfl).2, bnd_i32c (h0 2 .i32 rfl).2, bnd_i64 (h0 3 .i64 rfl).2⟩
theorem open_cels {H : Type} {enc : TypeId × Value → H} {w : World} {b0 : Nat} {r : Reach} {v : Value} {d : DataW H} {p : List MemPlace}
    (hv : Value.okWide Tryd.prog w r b0 41 v) (h : DataW.Trod enc Tryd.prog w 0 (fun _ => true) true 41 v d p) : ∃ l : Cels, FR celF w v l ∧ CelsOk l := by
  obtain ⟨a0, len, cap, rfl⟩ := okWide_slice Tryd.underlying41 hv
  obtain ⟨fuel, hf⟩ := h
  exact trod_cels hf
end Go.Proofs.YteplnejnhgmfiaaDoor
