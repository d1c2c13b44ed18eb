/- band: Same, whether two lists of bands are one; few, the first thirty of any, in memory of their own; rows of bands that a call owns. -/
import Derived.Test.YtgfmfkjebnllnaaBandA
import Derived.Laws.StructEq
import Derived.Deep.QuietTactic
namespace Go.Proofs.Ytgfmfkjebnllnaa
set_option linter.unusedSimpArgs false
set_option linter.unusedVariables false
set_option linter.unusedSectionVars false
open Go.RowKit

/-! ### a list of bands as cells -/
def flatB (l : Bands) : List Value := l.flatMap fun b => [.int .i64 b.1, .int .i64 b.2]
theorem flatB_nil : flatB [] = [] := rfl
theorem flatB_cons (b : Int × Int) (l : Bands) : flatB (b :: l) = .int .i64 b.1 :: .int .i64 b.2 :: flatB l := rfl
theorem flatB_append (a b : Bands) : flatB (a ++ b) = flatB a ++ flatB b := by unfold flatB; rw [List.flatMap_append]
theorem flatB_length : ∀ l : Bands, (flatB l).length = l.length * 2
  | [] => rfl
  | b :: l => by rw [flatB_cons, List.length_cons, List.length_cons, flatB_length l, List.length_cons]; omega
theorem flatB_0 : ∀ (l : Bands) (j : Nat), (flatB l)[j * 2]? = (l[j]?).map fun b => .int .i64 b.1
  | [], j => by simp [flatB_nil]
  | b :: l, 0 => rfl
  | b :: l, j + 1 => by
    rw [flatB_cons, show (j + 1) * 2 = j * 2 + 1 + 1 by omega, List.getElem?_cons_succ, List.getElem?_cons_succ, flatB_0 l j, List.getElem?_cons_succ]
theorem flatB_1 : ∀ (l : Bands) (j : Nat), (flatB l)[j * 2 + 1]? = (l[j]?).map fun b => .int .i64 b.2
  | [], j => by simp [flatB_nil]
  | b :: l, 0 => rfl
  | b :: l, j + 1 => by
    rw [flatB_cons, show (j + 1) * 2 + 1 = j * 2 + 1 + 1 + 1 by omega, List.getElem?_cons_succ, List.getElem?_cons_succ, flatB_1 l j, List.getElem?_cons_succ]
theorem flatB_one (l : Bands) : ∀ u ∈ flatB l, u.oneCell' = true := by
  intro u hu
  obtain ⟨b, _, hb⟩ := List.mem_flatMap.1 hu
  rcases List.mem_cons.1 hb with rfl | hb
  · rfl
  · rcases List.mem_cons.1 hb with rfl | hb
    · rfl
    · cases hb
/-- a row of bands that a call made itself -/
def OB (w : World) (B : Nat) (v : Value) (l : Bands) : Prop := w.ownsRow B 39 2 v l.length (flatB l)
theorem OB.reads {w : World} {B : Nat} {v : Value} {l : Bands} (h : OB w B v l) : RB w v l := by
  rcases h.2 with ⟨rfl, h0⟩ | ⟨g, cap, cur, rfl, h2, h3, h4, h5, h6, h7⟩
  · refine ⟨none, 0, by rw [h0], by omega, fun hp => by omega⟩
  · refine ⟨some ⟨g, 0, none⟩, cap, rfl, h4, fun _ => ⟨g, 0, rfl, own_lt h3, fun j hj => ?_⟩⟩
    have e : ∀ k, k < l.length * 2 → cur[k]? = (flatB l)[k]? := fun k hk => by
      have : (cur.toList.take (l.length * 2))[k]? = (flatB l)[k]? := by rw [h7]
      rw [List.getElem?_take_of_lt hk] at this
      simpa using this
    rw [Nat.zero_add, own_row h3, own_row h3, e _ (by omega), e _ (by omega), flatB_0, flatB_1, List.getElem?_eq_getElem hj]
    exact ⟨rfl, rfl⟩
theorem OB.later {w w' : World} {B : Nat} {v : Value} {l : Bands} (h : OB w B v l) (ha : AnyLater w w') : OB w' B v l := owns_later ha h
/-- what a list of bands holds, as the source of an append -/
theorem RB.cells {w w' : World} {b off : Nat} {l : Bands} (ha : AnyLater w w') (hb : 0 < l.length → b < w.heap.size) (hc : ∀ (j : Nat) (h : j < l.length), w.cell? ⟨b, off + j * 2, none⟩ = some (.int .i64 l[j].1) ∧ w.cell? ⟨b, off + j * 2 + 1, none⟩ = some (.int .i64 l[j].2)) :
    ∀ (j : Nat) (u : Value), (flatB l)[j]? = some u → w'.cell? ((⟨b, off, none⟩ : Addr).add j) = some u := by
  intro j u hu
  have hadd : (⟨b, off, none⟩ : Addr).add j = ⟨b, off + j, none⟩ := by unfold Addr.add; split <;> simp_all
  have hj : j < l.length * 2 := by
    rcases Nat.lt_or_ge j (l.length * 2) with h | h
    · exact h
    · rw [List.getElem?_eq_none (by rw [flatB_length]; exact h)] at hu; cases hu
  have hk : j / 2 < l.length := by omega
  rw [hadd, ha.below.cell (hb (by omega))]
  rcases Nat.mod_two_eq_zero_or_one j with hm | hm
  · have e : j = j / 2 * 2 := by omega
    rw [e] at hu ⊢
    rw [flatB_0, List.getElem?_eq_getElem hk] at hu
    rw [(hc _ hk).1]; exact hu
  · have e : j = j / 2 * 2 + 1 := by omega
    rw [e] at hu ⊢
    rw [flatB_1, List.getElem?_eq_getElem hk] at hu
    rw [← Nat.add_assoc, (hc _ hk).2]; exact hu

theorem info_band : (Try.prog.info? 39).map (fun i => (i.zero, i.size, i.bytes)) = some (some (.agg #[.int .i64 0, .int .i64 0]), 2, 16) := by kernel_rfl
theorem own_band0 (w : World) : OB (w.alloc (.cells #[] 39)) w.heap.size (.slice (some ⟨w.heap.size, 0, none⟩) 0 0) [] :=
  ⟨rfl, .inr ⟨w.heap.size, 0, #[], rfl, Nat.le_refl _, heap_new rfl, Nat.le_refl _, Nat.zero_le _, rfl, rfl⟩⟩

/-! ### few -/
def RowB (W : World) (l : Bands) (e : Ending) (w' : World) : Prop := ∃ v, e = .returned v ∧ AnyLater W w' ∧ OB w' W.heap.size v l
/-! ### Same -/
theorem stood_band : Try.prog.stoodInHeld 39 = false := by kernel_rfl
theorem fields_band : Try.prog.underlying 39 = some (.struct (Try.prog.fieldsOf 39)) := by kernel_rfl
theorem guard_band : Try.prog.eqGuardType Try.prog.depth 39 = false := by kernel_rfl
theorem eqBand (a b c d : Int) (w : World) : (Op.equalIn 10000 39 (.agg #[.int .i64 a, .int .i64 b]) (.agg #[.int .i64 c, .int .i64 d])).run Try.prog w = .ok (a == c && b == d) w := by
  rw [run_equalIn_agg w 9999 _ _ _ fields_band stood_band]
  by_cases h1 : a = c
  · by_cases h2 : b = d
    · simp [go_sem, h1, h2]
    · simp [go_sem, h1, h2]
  · simp [go_sem, h1]
theorem neqBand (a b c d : Int) (w : World) : (binOp .neq 39 (.agg #[.int .i64 a, .int .i64 b]) (.agg #[.int .i64 c, .int .i64 d])).run Try.prog w = .ok (.bool (!(a == c && b == d))) w := by
  rw [run_neq_struct, eqBand]; rfl
theorem eqlBand (a b c d : Int) (w : World) : (binOp .eql 39 (.agg #[.int .i64 a, .int .i64 b]) (.agg #[.int .i64 c, .int .i64 d])).run Try.prog w = .ok (.bool (a == c && b == d)) w := by
  rw [run_eql_struct, eqBand]; rfl

end Go.Proofs.Ytgfmfkjebnllnaa
