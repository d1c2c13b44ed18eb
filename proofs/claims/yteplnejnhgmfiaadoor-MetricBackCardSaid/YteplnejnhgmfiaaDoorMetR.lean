/- metric: the law's lives. -/
import Derived.Test.YteplnejnhgmfiaaDoorMetO
import Derived.Test.YteplnejnhgmfiaaDoorMetB
import Derived.Test.YteplnejnhgmfiaaDoorMetG
import Derived.Lib.SlBytesConst
namespace Go.Proofs.YteplnejnhgmfiaaDoor
set_option linter.unusedSimpArgs false
set_option linter.unusedVariables false
set_option linter.unusedSectionVars false
open Go.RowKit

theorem mcnt_live : Cnt [97, 98] 2 := ⟨by decide, fun j hj => by
  have : j = 0 ∨ j = 1 := by omega
  rcases this with rfl | rfl <;> decide⟩
def live0 : Ld := ⟨[(0, 1, 97, 0)], [0, 6], 7, 2, 0, 1, false⟩
def live1 : Ld := ⟨[(1, 1, 98, 0)], [0, 6], 7, 2, 1, 2, true⟩
theorem lines_live : linesL (celsU [97, 98] (fun p => (styD [] 0 ([97, 98] : List Int).length).getD p 0) 2) 6 = [live0, live1] := by rfl
theorem at_live : atL 1 [live0, live1] = (1, 0, true) := by rfl
set_option maxRecDepth 100000 in
set_option maxHeartbeats 3200000 in
theorem mlives_any (w : World) (hg : GlobU w) : Calls Tryd.prog 10 #[] w fun e w' => e = .returned (.bool true) ∧ AnyLater w w' := by
  have kc := fun (w : World) (C : Array Value) (n c : Nat) => Lib.run_convert_bytes_const (P := Tryd.prog) w 22 5 C n c Tryd.underlying22 Tryd.underlying5
  obtain ⟨w4, hw4⟩ : ∃ w4, w.alloc (.cells #[.int .u8 97, .int .u8 98] 5 (2, 3)) = w4 := ⟨_, rfl⟩
  have a4 : AnyLater w w4 := by rw [← hw4]; exact (AnyLater.refl w).alloc _
  have o4 : RU8 w4 (.slice (some ⟨w.heap.size, 0, none⟩) 2 2) [97, 98] := ⟨_, 2, rfl, by decide, fun _ => ⟨w.heap.size, 0, rfl, by rw [← hw4]; simp, fun j hj => by
    have hj2 : j = 0 ∨ j = 1 := by simp at hj; omega
    have hh : w4.heap[w.heap.size]? = some (.cells #[.int .u8 97, .int .u8 98] 5 (2, 3)) := by rw [← hw4]; exact heap_new rfl
    rcases hj2 with rfl | rfl <;> simp [World.cell?, hh]⟩⟩
  have HO := Lib.hid (mline_any (.slice (some ⟨w.heap.size, 0, none⟩) 2 2) (.slice none 0 0) [97, 98] [] 0 6 2 w4 o4 (by unfold Bytes; decide) (by decide) (hg.later a4) mcnt_live ⟨none, 0, rfl, Nat.le_refl _, fun h => absurd h (by decide)⟩ (fun r hr => by cases hr) (by decide) (by constructor <;> omega) (by constructor <;> omega))
  rw [lines_live] at HO
  have HA4 := Lib.hid a4
  have HAT := Lib.hid (fun v w2 h => mat_any v [live0, live1] 1 w2 1 0 true at_live h (by decide) (by
    intro r hr
    simp only [List.mem_cons, List.not_mem_nil, or_false] at hr
    rcases hr with rfl | rfl <;> decide) (by constructor <;> omega))
  have HHT := Lib.hid (fun a1 c1 a2 c2 w => mheight_any a1 a2 1 c1 2 c2 7 2 0 1 false w 9 rfl (by constructor <;> omega) (by constructor <;> omega))
  clear o4 a4 hg
  go_enter Tryd.func10, Tryd.ntmps10
  go_wp2_with fail
  refine HO.out.mono ?_
  rintro e w5 ⟨u5, rfl, b5, o5⟩
  obtain ⟨A, cap, rfl, hcap⟩ := o5.form
  have H5 := Lib.hid (And.intro (HA4.out.trans b5) o5.lr)
  clear b5 o5
  simp only [List.length_cons, List.length_nil, Nat.zero_add, Nat.reduceAdd] at *
  go_wp2_with fail
  refine (HAT.out _ _ H5.out.2).mono ?_
  rintro e w6 ⟨rfl, b6⟩
  obtain ⟨b, off, a1, c1, a2, c2, rfl, hb, -, d0, d1, d2, d3, d4, d5, d6⟩ := ldAt (H5.out.2.later b6) 0 (by decide)
  have H6 := Lib.hid (H5.out.1.trans b6)
  clear b6
  simp only [live0, List.length_cons, List.length_nil, Nat.zero_add, Nat.reduceAdd, List.getElem_cons_zero, Nat.zero_mul, Nat.add_zero] at d0 d1 d2 d3 d4 d5 d6
  go_wp2_with fail
  refine (HHT.out _ _ _ _ _).mono ?_
  rintro e w7 ⟨rfl, b7⟩
  have H7 := Lib.hid (H6.out.trans b7)
  clear b7 d0 d1 d2 d3 d4 d5 d6
  go_wp2_with fail
  go_ret
  exact ⟨rfl, H7.out⟩
end Go.Proofs.YteplnejnhgmfiaaDoor
