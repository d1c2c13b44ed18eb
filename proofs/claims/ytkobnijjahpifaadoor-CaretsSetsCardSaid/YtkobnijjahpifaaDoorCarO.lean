/- carets: what shows that carets become one (lives). -/
import Derived.Test.YtkobnijjahpifaaDoorCarN
import Derived.Test.YtkobnijjahpifaaDoorCarM
namespace Go.Proofs.YtkobnijjahpifaaDoor
set_option linter.unusedSimpArgs false
set_option linter.unusedVariables false
set_option linter.unusedSectionVars false
open Go.RowKit

set_option maxRecDepth 100000 in
theorem clives_any (w : World) : Calls Tryd.prog 11 #[] w fun e w' => e = .returned (.bool true) ∧ AnyLater w w' := by
  have h1 : AnyLater w (w.alloc (.cells #[.int .i64 0, .int .i64 3, .int .i64 2, .int .i64 5] 45)) := (AnyLater.refl w).alloc _
  have h3 : (w.alloc (.cells #[.int .i64 0, .int .i64 3, .int .i64 2, .int .i64 5] 45)).heap[w.heap.size]? = some (.cells #[.int .i64 0, .int .i64 3, .int .i64 2, .int .i64 5] 45) := heap_new rfl
  have hq : QR (w.alloc (.cells #[.int .i64 0, .int .i64 3, .int .i64 2, .int .i64 5] 45)) (.slice (some ⟨w.heap.size, 0, none⟩) 2 2) [(0, 3), (2, 5)] :=
    OQ.rq (t := 45) (B := 0) ⟨rfl, .inr ⟨w.heap.size, 2, _, rfl, Nat.zero_le _, h3, Nat.le_refl _, by unfold maxLen; omega, rfl, rfl⟩⟩
  have HT := Lib.hid (ktidy_any _ _ [(0, 5)] _ (by decide) hq (by decide))
  have HG := Lib.hid (fun (w : World) (u : Value) (h : QR w u [(0, 5)]) => kgood_any u [(0, 5)] 5 true w (by decide) h (by decide))
  have HB := Lib.hid h1
  have HQ := eqlCaret
  have gb := guard_caret
  clear h1 h3 hq
  go_enter Tryd.func11, Tryd.ntmps11
  go_wp2_with fail
  refine HT.out.mono ?_
  rintro e w1 ⟨u, rfl, b1, o1⟩
  have hu := OQ.rq o1
  have HU := Lib.hid (And.intro (HB.out.trans b1) hu)
  obtain ⟨A, cap, rfl, -⟩ := hu.form
  obtain ⟨b, off, rfl, hb, c0, c1⟩ := hu.at 0 (by decide)
  simp only [Nat.zero_mul, Nat.add_zero, List.getElem_cons_zero, List.length_cons, List.length_nil, Nat.zero_add] at c0 c1 HU ⊢
  clear b1 o1 hu
  go_wp2_with fail
  refine (HG.out _ _ HU.out.2).mono ?_
  rintro e w2 ⟨rfl, b2⟩
  have HB2 := Lib.hid (HU.out.1.trans b2)
  clear b2
  go_wp2_with fail
  go_ret
  exact ⟨rfl, HB2.out⟩
end Go.Proofs.YtkobnijjahpifaaDoor
