/- rope: the document's own text: bytes taken away, a part of it, where its line feeds are: by contract. -/
import Derived.Test.YtiicaldnegcdiaaGreatRopP
import Derived.Test.YtiicaldnegcdiaaGreatRopO
namespace Go.Proofs.YtiicaldnegcdiaaGreat
set_option linter.unusedSimpArgs false
set_option linter.unusedVariables false
set_option linter.unusedSectionVars false
open Go.RowKit

set_option maxRecDepth 100000 in
/-- v[lo:hi], also of none -/
theorem RN.part {w : World} {v : Value} {l : List Int} (h : RN .u8 w v l) (lo hi : Nat) (h1 : lo ≤ hi) (h2 : hi ≤ l.length) : ∃ A cap, RN .u8 w (.slice A (hi - lo) cap) ((l.drop lo).take (hi - lo)) ∧
    ∀ w', (Instr.sliceAt 22 v (some (.int .i64 (lo : Int))) (some (.int .i64 (hi : Int))) none).run Tryz.prog w' = .ok (.slice A (hi - lo) cap) w' := by
  rcases Nat.lt_or_ge lo hi with hlt | hge
  · exact h.mid lo hi hlt h2
  · obtain rfl : lo = hi := by omega
    obtain ⟨A, cap, rfl, h3, _⟩ := h
    refine ⟨(if cap = lo then A else A.map (fun x => x.add lo)), cap - lo, ⟨(if cap = lo then A else A.map (fun x => x.add lo)), cap - lo, by simp, by simp, fun h => by simp at h⟩, fun w' => ?_⟩
    · rw [run_sliceAt_slice w' _ _ _ _ _ Tryz.underlying22, run_slice_lh w' _ A l.length cap Tryz.underlying22 .i64 .i64 (lo : Int) (lo : Int) (by omega) (by omega) (by omega)]
      have hz : ∀ w, (Go.sizeOf (Tryz.prog.elem 22)).run Tryz.prog w = .ok 1 w := fun w => by simp [go_sem]
      rw [hz]
      simp only [Result.andThen, sliced, Int.toNat_natCast, Nat.mul_one, Nat.sub_self]
end Go.Proofs.YtiicaldnegcdiaaGreat
