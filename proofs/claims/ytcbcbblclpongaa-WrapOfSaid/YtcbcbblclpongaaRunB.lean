/- runs: rows of runs in memory; Same, whether two lists of runs are one; few, the first sixty of any, in memory of their own. -/
import Derived.Test.YtcbcbblclpongaaRunA
import Derived.Test.YtcbcbblclpongaaOwn
import Derived.Test.YtcbcbblclpongaaChecked
import Derived.Deep.LoopGhost
import Derived.LoopN
import Derived.Laws.StructEq
import Derived.Deep.QuietTactic
namespace Go.Proofs.Ytcbcbblclpongaa
set_option linter.unusedSimpArgs false
set_option linter.unusedVariables false
set_option linter.unusedSectionVars false
open Go.RowKit

/-- a slice that reads as these runs -/
def RRn (w : World) (v : Value) (l : Runs) : Prop := ∃ (A : Option Addr) (cap : Nat), v = .slice A l.length cap ∧ l.length ≤ cap ∧ (0 < l.length → ∃ b off, A = some ⟨b, off, none⟩ ∧ b < w.heap.size ∧ ∀ (j : Nat) (h : j < l.length), w.cell? ⟨b, off + j * 2, none⟩ = some (.int .i64 l[j].1) ∧ w.cell? ⟨b, off + j * 2 + 1, none⟩ = some (.int .i64 l[j].2))
theorem RRn.later {w w' : World} {v : Value} {l : Runs} (h : RRn w v l) (ha : AnyLater w w') : RRn w' v l := by
  obtain ⟨A, cap, h1, h2, h3⟩ := h
  refine ⟨A, cap, h1, h2, fun h0 => ?_⟩
  obtain ⟨b, off, e, hb, hc⟩ := h3 h0
  exact ⟨b, off, e, Nat.lt_of_lt_of_le hb ha.below.size, fun j hj => ⟨(ha.below.cell hb).trans (hc j hj).1, (ha.below.cell hb).trans (hc j hj).2⟩⟩
/-! ### a list of runs as cells -/
def flatN (l : Runs) : List Value := l.flatMap fun b => [.int .i64 b.1, .int .i64 b.2]
theorem flatN_nil : flatN [] = [] := rfl
theorem flatN_cons (b : Int × Int) (l : Runs) : flatN (b :: l) = .int .i64 b.1 :: .int .i64 b.2 :: flatN l := rfl
theorem flatN_append (a b : Runs) : flatN (a ++ b) = flatN a ++ flatN b := by unfold flatN; rw [List.flatMap_append]
theorem flatN_length : ∀ l : Runs, (flatN l).length = l.length * 2
  | [] => rfl
  | b :: l => by rw [flatN_cons, List.length_cons, List.length_cons, flatN_length l, List.length_cons]; omega
theorem flatN_0 : ∀ (l : Runs) (j : Nat), (flatN l)[j * 2]? = (l[j]?).map fun b => .int .i64 b.1
  | [], j => by simp [flatN_nil]
  | b :: l, 0 => rfl
  | b :: l, j + 1 => by
    rw [flatN_cons, show (j + 1) * 2 = j * 2 + 1 + 1 by omega, List.getElem?_cons_succ, List.getElem?_cons_succ, flatN_0 l j, List.getElem?_cons_succ]
theorem flatN_1 : ∀ (l : Runs) (j : Nat), (flatN l)[j * 2 + 1]? = (l[j]?).map fun b => .int .i64 b.2
  | [], j => by simp [flatN_nil]
  | b :: l, 0 => rfl
  | b :: l, j + 1 => by
    rw [flatN_cons, show (j + 1) * 2 + 1 = j * 2 + 1 + 1 + 1 by omega, List.getElem?_cons_succ, List.getElem?_cons_succ, flatN_1 l j, List.getElem?_cons_succ]
theorem flatN_one (l : Runs) : ∀ u ∈ flatN l, u.oneCell' = true := by
  intro u hu
  obtain ⟨b, _, hb⟩ := List.mem_flatMap.1 hu
  rcases List.mem_cons.1 hb with rfl | hb
  · rfl
  · rcases List.mem_cons.1 hb with rfl | hb
    · rfl
    · cases hb
/-- what a list of runs holds, as the source of an append -/
theorem RRn.cells {w w' : World} {b off : Nat} {l : Runs} (ha : AnyLater w w') (hb : 0 < l.length → b < w.heap.size) (hc : ∀ (j : Nat) (h : j < l.length), w.cell? ⟨b, off + j * 2, none⟩ = some (.int .i64 l[j].1) ∧ w.cell? ⟨b, off + j * 2 + 1, none⟩ = some (.int .i64 l[j].2)) :
    ∀ (j : Nat) (u : Value), (flatN l)[j]? = some u → w'.cell? ((⟨b, off, none⟩ : Addr).add j) = some u := by
  intro j u hu
  have hadd : (⟨b, off, none⟩ : Addr).add j = ⟨b, off + j, none⟩ := by unfold Addr.add; split <;> simp_all
  have hj : j < l.length * 2 := by
    rcases Nat.lt_or_ge j (l.length * 2) with h | h
    · exact h
    · rw [List.getElem?_eq_none (by rw [flatN_length]; exact h)] at hu; cases hu
  have hk : j / 2 < l.length := by omega
  rw [hadd, ha.below.cell (hb (by omega))]
  rcases Nat.mod_two_eq_zero_or_one j with hm | hm
  · have e : j = j / 2 * 2 := by omega
    rw [e] at hu ⊢
    rw [flatN_0, List.getElem?_eq_getElem hk] at hu
    rw [(hc _ hk).1]; exact hu
  · have e : j = j / 2 * 2 + 1 := by omega
    rw [e] at hu ⊢
    rw [flatN_1, List.getElem?_eq_getElem hk] at hu
    rw [← Nat.add_assoc, (hc _ hk).2]; exact hu

/-! ### few -/
/-! ### Same -/
end Go.Proofs.Ytcbcbblclpongaa
