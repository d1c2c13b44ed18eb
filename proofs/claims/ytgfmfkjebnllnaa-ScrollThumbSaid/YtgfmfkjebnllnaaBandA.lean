/- band: the document's own answers by contract: which bands have a row (In), whether they are near (Near), whether two lists are one (Same). -/
import Derived.Test.YtgfmfkjebnllnaaChecked
import Derived.Test.YtgfmfkjebnllnaaOwn
import Derived.Test.YtgfmfkjebnllnaaBandM
import Derived.Deep.LoopGhost
import Derived.LoopN
namespace Go.Proofs.Ytgfmfkjebnllnaa
set_option linter.unusedSimpArgs false
set_option linter.unusedVariables false
set_option linter.unusedSectionVars false
open Go.RowKit

/-- a slice that reads as these bands -/
def RB (w : World) (v : Value) (l : Bands) : Prop := ∃ (A : Option Addr) (cap : Nat), v = .slice A l.length cap ∧ l.length ≤ cap ∧ (0 < l.length → ∃ b off, A = some ⟨b, off, none⟩ ∧ b < w.heap.size ∧ ∀ (j : Nat) (h : j < l.length), w.cell? ⟨b, off + j * 2, none⟩ = some (.int .i64 l[j].1) ∧ w.cell? ⟨b, off + j * 2 + 1, none⟩ = some (.int .i64 l[j].2))
theorem RB.later {w w' : World} {v : Value} {l : Bands} (h : RB w v l) (ha : AnyLater w w') : RB w' v l := by
  obtain ⟨A, cap, h1, h2, h3⟩ := h
  refine ⟨A, cap, h1, h2, fun h0 => ?_⟩
  obtain ⟨b, off, e, hb, hc⟩ := h3 h0
  exact ⟨b, off, e, Nat.lt_of_lt_of_le hb ha.below.size, fun j hj => ⟨(ha.below.cell hb).trans (hc j hj).1, (ha.below.cell hb).trans (hc j hj).2⟩⟩
theorem inB_take {l : Bands} {y : Int} {j : Nat} (h : j < l.length) : inB (l.take (j + 1)) y = (inB (l.take j) y || decide (l[j].1 ≤ y ∧ y < l[j].2 ∧ -1073741824 ≤ y ∧ y < 1073741824)) := by
  rw [List.take_succ_eq_append_getElem h, inB_append, inB_cons, inB_nil, Bool.or_false]
theorem inB_hit {l : Bands} {y : Int} {j : Nat} (h : j < l.length) (hy : l[j].1 ≤ y ∧ y < l[j].2 ∧ -1073741824 ≤ y ∧ y < 1073741824) : inB l y = true :=
  inB_iff.2 ⟨l[j], List.getElem_mem h, hy⟩

set_option maxRecDepth 100000 in
set_option maxHeartbeats 1600000 in
theorem in_some (b off n cap : Nat) (l : Bands) (y : Int) (w : World) (hl : l.length = n) (hn : n ≤ 100000) (hc : ∀ (j : Nat) (h : j < l.length), w.cell? ⟨b, off + j * 2, none⟩ = some (.int .i64 l[j].1) ∧ w.cell? ⟨b, off + j * 2 + 1, none⟩ = some (.int .i64 l[j].2)) :
    Calls Try.prog 16 #[.slice (some ⟨b, off, none⟩) n cap, .int .i64 y] w fun e w' => e = .returned (.bool (inB l y)) ∧ w = w' := by
  have HL := Lib.hid hl
  have HC := Lib.hid hc
  clear hl hc
  go_enter Try.func16, Try.ntmps16
  go_wp2_with fail
  go_loopg [5] n (fun k i wr => w = wr ∧ ∃ j : Nat, k = n - j ∧ j ≤ n ∧ i = .int .i64 j ∧ inB (l.take j) y = false)
  case atStart => exact ⟨rfl, 0, by omega, by omega, rfl, by simp [inB_nil]⟩
  case round =>
    obtain ⟨rfl, j, hk, hj, rfl, hf⟩ := hrel
    have HF := Lib.hid hf
    clear hf
    by_cases hlt : j < n
    · have lj : j < l.length := by rw [HL.out]; exact hlt
      obtain ⟨c0, c1⟩ := HC.out j lj
      have HH := Lib.hid (@inB_hit l y j lj)
      generalize hx : l[j] = x at *
      obtain ⟨f, t⟩ := x
      simp only at c0 c1
      have HX := Lib.hid hx
      clear hx
      by_cases h1 : f ≤ y
      · by_cases h2 : y < t
        · by_cases h3 : -1073741824 ≤ y
          · by_cases h4 : y < 1073741824
            · have q := HH.out ⟨h1, h2, h3, h4⟩
              have Q := Lib.hid q
              clear q
              go_wp2_with fail
              go_ret
              exact ⟨ret_bool Q.out.symm, rfl⟩
            · go_wp2_with fail
              go_roundg (n - (j + 1))
              case measure => omega
              case rel => exact ⟨rfl, j + 1, rfl, hlt, by go_num, by rw [inB_take lj, HF.out, Bool.false_or, HX.out]; exact decide_eq_false (fun h => by omega)⟩
          · go_wp2_with fail
            go_roundg (n - (j + 1))
            case measure => omega
            case rel => exact ⟨rfl, j + 1, rfl, hlt, by go_num, by rw [inB_take lj, HF.out, Bool.false_or, HX.out]; exact decide_eq_false (fun h => by omega)⟩
        · go_wp2_with fail
          go_roundg (n - (j + 1))
          case measure => omega
          case rel => exact ⟨rfl, j + 1, rfl, hlt, by go_num, by rw [inB_take lj, HF.out, Bool.false_or, HX.out]; exact decide_eq_false (fun h => by omega)⟩
      · go_wp2_with fail
        go_roundg (n - (j + 1))
        case measure => omega
        case rel => exact ⟨rfl, j + 1, rfl, hlt, by go_num, by rw [inB_take lj, HF.out, Bool.false_or, HX.out]; exact decide_eq_false (fun h => by omega)⟩
    · obtain rfl : j = n := by omega
      have q : inB l y = false := by rw [← HF.out, List.take_of_length_le (Nat.le_of_eq HL.out)]
      have Q := Lib.hid q
      clear q
      go_wp2_with fail
      go_ret
      exact ⟨ret_bool Q.out.symm, rfl⟩
/-- In of any bands -/
theorem in_any (v : Value) (l : Bands) (y : Int) (w : World) (h : RB w v l) (hn : l.length ≤ 100000) :
    Calls Try.prog 16 #[v, .int .i64 y] w fun e w' => e = .returned (.bool (inB l y)) ∧ w = w' := by
  obtain ⟨A, cap, rfl, h2, h3⟩ := h
  rcases Nat.eq_zero_or_pos l.length with h0 | h0
  · obtain rfl := List.eq_nil_of_length_eq_zero h0
    clear h2 h3 h0 hn
    simp only [List.length_nil]
    go_enter Try.func16, Try.ntmps16
    go_wp2_with fail
    refine wp_loop_rounds 1 ?_
    rw [rounds_succ]
    go_wp2_with fail
    go_ret
    exact ⟨ret_bool (inB_nil y).symm, rfl⟩
  · obtain ⟨b, off, rfl, _, hc⟩ := h3 h0
    exact in_some b off _ cap l y w rfl hn hc

/-! ### Near -/
def nearOne (b : Int × Int) : Bool := decide (-100 ≤ b.1 ∧ b.1 ≤ 300 ∧ -100 ≤ b.2 ∧ b.2 ≤ 300)
def nearB (l : Bands) : Bool := l.all nearOne && decide (l.length ≤ 60)
end Go.Proofs.Ytgfmfkjebnllnaa
