/- rope: bytes taken away; a byte: by contract. -/
import Derived.Test.YtiicaldnegcdiaaGreatRopM
namespace Go.Proofs.YtiicaldnegcdiaaGreat
set_option linter.unusedSimpArgs false
set_option linter.unusedVariables false
set_option linter.unusedSectionVars false
open Go.RowKit

/-! ### bytes taken away -/
/-- what a text is behind bytes are taken away -/
def delT (t : Tr) (i m : Nat) : Tr := Tr.meet (Tr.split (Tr.split t (i + m)).1 i).1 (Tr.split t (i + m)).2
theorem delT_bs (t : Tr) (i m : Nat) : (delT t i m).bs = t.bs.take i ++ t.bs.drop (i + m) := by
  unfold delT
  rw [Tr.bs_meet, (Tr.bs_split _ i).1, (Tr.bs_split t (i + m)).1, (Tr.bs_split t (i + m)).2, List.take_take, Nat.min_eq_left (Nat.le_add_right i m)]
theorem delT_ok {t : Tr} {i m : Nat} (ok : t.Ok) : (delT t i m).Ok := by
  obtain ⟨f1, f2⟩ := Tr.fair_split t (i + m) ok.fair
  obtain ⟨e1, e2⟩ := Tr.even_split t (i + m) ok.even
  refine ⟨Tr.fair_meet (Tr.fair_split _ i f1).1 f2, Tr.even_meet _ _ (Tr.even_split _ i e1).1 e2, ?_⟩
  have := ok.len
  rw [← Tr.len_bs, delT_bs, List.length_append, List.length_take, List.length_drop, Tr.len_bs]; omega
end Go.Proofs.YtiicaldnegcdiaaGreat
