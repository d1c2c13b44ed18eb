/- band: what the program's functions are to tell (Says: to be proved of the code at hand); on that: lives. -/
import Derived.Test.YtgfmfkjebnllnaaBandC
namespace Go.Proofs.Ytgfmfkjebnllnaa
set_option linter.unusedSimpArgs false
set_option linter.unusedVariables false
set_option linter.unusedSectionVars false
open Go.RowKit

def Nums (l : Bands) : Prop := ∀ b ∈ l, (-9223372036854775808 ≤ b.1 ∧ b.1 ≤ 9223372036854775807) ∧ -9223372036854775808 ≤ b.2 ∧ b.2 ≤ 9223372036854775807
theorem GoodL.nums {l : Bands} (h : GoodL l) : Nums l := fun b hb => by have := h.1 b hb; omega
/-- good bands of just these rows -/
def Told (W : World) (f : Int → Bool) (e : Ending) (w' : World) : Prop := ∃ v T, e = .returned v ∧ AnyLater W w' ∧ RB w' v T ∧ GoodL T ∧ ∀ y, inB T y = f y
def heightL (T : Bands) : Int := (T.map fun b => b.2 - b.1).sum
def clampB (y : Int) : Int := max (-1073741824) (min 1073741824 y)
theorem lives_two (y : Int) : inB [(0, 3), (3, 5)] y = inB [(0, 5)] y := by
  rw [inB_cons, inB_cons, inB_cons, inB_nil, Bool.or_false, Bool.or_false, Bool.eq_iff_iff]
  simp only [Bool.or_eq_true, decide_eq_true_eq]
  omega
theorem good_five : GoodL [(0, 5)] := ⟨by intro b hb; obtain rfl := List.mem_singleton.1 hb; omega, List.pairwise_singleton _ _⟩
theorem RB.block {w : World} {g cap : Nat} {cur : Array Value} {l : Bands} (h : w.heap[g]? = some (.cells cur 39)) (hc : cur.toList = flatB l) (hl : l.length ≤ cap) : RB w (.slice (some ⟨g, 0, none⟩) l.length cap) l := by
  refine ⟨some ⟨g, 0, none⟩, cap, rfl, hl, fun _ => ⟨g, 0, rfl, own_lt h, fun j hj => ?_⟩⟩
  have e : ∀ k, cur[k]? = (flatB l)[k]? := fun k => by rw [← hc, Array.getElem?_toList]
  rw [Nat.zero_add, own_row h, own_row h, e, e, flatB_0, flatB_1, List.getElem?_eq_getElem hj]
  exact ⟨rfl, rfl⟩
/-! ### BandHas -/
theorem nums_take {l : Bands} (h : Nums l) (n : Nat) : Nums (l.take n) := fun b hb => h b (List.mem_of_mem_take hb)
end Go.Proofs.Ytgfmfkjebnllnaa
