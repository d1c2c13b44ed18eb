/- frame: which pixels a rectangle has, by contract; slices that read as pixels; Same of two of them; a copy in memory of its own. -/
import Derived.Test.YtbgpjfiabefajaaChecked
import Derived.Test.YtbgpjfiabefajaaOwn
import Derived.Test.YtbgpjfiabefajaaFrameA
import Derived.Deep.LoopGhost
import Derived.LoopN
import Derived.Deep.QuietTactic
namespace Go.Proofs.Ytbgpjfiabefajaa
set_option linter.unusedSimpArgs false
set_option linter.unusedVariables false
set_option linter.unusedSectionVars false
open Go.RowKit

set_option maxHeartbeats 1000000 in
theorem refGood_any (x y a b : Int) (w : World) (c : Bool) (hc : goodB x y a b = c) (hx : I64 x) (hy : I64 y) (ha : I64 a) (hb : I64 b) :
    Calls Try.prog 82 #[.agg #[.int .i64 x, .int .i64 y, .int .i64 a, .int .i64 b]] w fun e w' => e = .returned (.bool c) ∧ AnyLater w w' := by
  have HL := Lib.hid ((AnyLater.refl w).alloc (.cells #[.int .i64 x, .int .i64 y, .int .i64 a, .int .i64 b] 32))
  have H := Lib.hid hc
  clear hc
  go_enter Try.func82, Try.ntmps82
  go_wp2
  all_goals
    go_ret
    exact ⟨ret_bool (by rw [← H.out]; unfold goodB sideB; first | (simp; done) | (simp; omega) | (rw [Bool.eq_iff_iff]; simp; omega)), HL.out⟩
set_option maxHeartbeats 1000000 in
theorem in_any (r : Rt) (p q : Int) (w : World) (c : Bool) (hc : r.has p q = c) (hr : r.I64) (hp : I64 p) (hq : I64 q) :
    Calls Try.prog 65 #[.agg #[.int .i64 r.x, .int .i64 r.y, .int .i64 r.a, .int .i64 r.b], .int .i64 p, .int .i64 q] w fun e w' => e = .returned (.bool c) ∧ AnyLater w w' := by
  obtain ⟨x, y, a, b⟩ := r
  obtain ⟨hx, hy, ha, hb⟩ := hr
  simp only at hx hy ha hb ⊢
  have HL := Lib.hid ((AnyLater.refl w).alloc (.cells #[.int .i64 x, .int .i64 y, .int .i64 a, .int .i64 b] 32))
  have H := Lib.hid hc
  clear hc
  rcases hg : goodB x y a b
  case' true => obtain ⟨g1, g2, g3, g4, g5, g6, g7, g8⟩ := goodB_in hg
  all_goals
    go_enter Try.func65, Try.ntmps65
    go_wp2_with (go_at_call 82; refine (refGood_any _ _ _ _ _ _ (by assumption) (by assumption) (by assumption) (by assumption) (by assumption)).mono ?_; rintro e w' ⟨rfl, u, rfl⟩; have hs := later_size u; (try simp only [World.size_alloc, World.size_setCell, World.size_drew] at hs); have c0 := later_row u w.heap.size (by (try simp only [World.size_alloc, World.size_setCell, World.size_drew]); omega); have z0 := later_free u w.heap.size (by (try simp only [World.size_alloc, World.size_setCell, World.size_drew]); omega))
    all_goals
      go_ret
      exact ⟨ret_bool (by rw [← H.out]; unfold Rt.has; first | (simp [hg]; done) | (simp [hg]; omega) | (rw [Bool.eq_iff_iff]; simp [hg]; omega)), HL.out.later u⟩

/-! ### slices of pixels -/
/-- a slice that reads as these pixels -/
def RU (w : World) (v : Value) (l : List Int) : Prop := ∃ (A : Option Addr) (cap : Nat), v = .slice A l.length cap ∧ l.length ≤ cap ∧ (0 < l.length → ∃ b off, A = some ⟨b, off, none⟩ ∧ b < w.heap.size ∧ ∀ (j : Nat) (h : j < l.length), w.cell? ⟨b, off + j, none⟩ = some (.int .u32 l[j]))
theorem RU.later {w w' : World} {v : Value} {l : List Int} (h : RU w v l) (ha : AnyLater w w') : RU w' v l := by
  obtain ⟨A, cap, h1, h2, h3⟩ := h
  refine ⟨A, cap, h1, h2, fun h0 => ?_⟩
  obtain ⟨b, off, e, hb, hc⟩ := h3 h0
  exact ⟨b, off, e, Nat.lt_of_lt_of_le hb ha.below.size, fun j hj => (ha.below.cell hb).trans (hc j hj)⟩

set_option maxRecDepth 100000 in
set_option maxHeartbeats 1600000 in
theorem same_some (b off n cap b2 off2 cap2 : Nat) (l l2 : List Int) (w : World) (hl : l.length = n) (hl2 : l2.length = n) (hn : n ≤ 100000) (hc : ∀ (j : Nat) (h : j < l.length), w.cell? ⟨b, off + j, none⟩ = some (.int .u32 l[j]))
    (hc2 : ∀ (j : Nat) (h : j < l2.length), w.cell? ⟨b2, off2 + j, none⟩ = some (.int .u32 l2[j])) (hb : b < w.heap.size) (hb2 : b2 < w.heap.size) :
    Calls Try.prog 20 #[.slice (some ⟨b, off, none⟩) n cap, .slice (some ⟨b2, off2, none⟩) n cap2] w fun e w' => e = .returned (.bool (decide (l = l2))) ∧ AnyLater w w' := by
  have HL := Lib.hid hl
  have HL2 := Lib.hid hl2
  have HC := Lib.hid hc
  have HC2 := Lib.hid hc2
  clear hl hc hl2 hc2
  go_enter Try.func20, Try.ntmps20
  go_wp2_with fail
  go_loopg [5] n (fun k i wr => AnyLater w wr ∧ ∃ j : Nat, k = n - j ∧ j ≤ n ∧ i = .int .i64 j ∧ l.take j = l2.take j)
  case atStart => exact ⟨AnyLater.refl _, 0, by omega, by omega, rfl, by simp⟩
  case round =>
    obtain ⟨a_wr, j, hk, hj, rfl, hf⟩ := hrel
    have HF := Lib.hid hf
    have HA := Lib.hid a_wr
    clear hf
    by_cases hlt : j < n
    · have lj : j < l.length := by rw [HL.out]; exact hlt
      have lj2 : j < l2.length := by rw [HL2.out]; exact hlt
      have i1 : (j : Int) < (n : Int) := by omega
      have c0 : wr.cell? ⟨b, off + j, none⟩ = some (.int .u32 l[j]) := (a_wr.below.cell hb).trans (HC.out j lj)
      have d0 : wr.cell? ⟨b2, off2 + j, none⟩ = some (.int .u32 l2[j]) := (a_wr.below.cell hb2).trans (HC2.out j lj2)
      have HT : Hid (l.take (j + 1) = l.take j ++ [l[j]] ∧ l2.take (j + 1) = l2.take j ++ [l2[j]]) := Lib.hid ⟨List.take_succ_eq_append_getElem lj, List.take_succ_eq_append_getElem lj2⟩
      have HD : Hid (l[j] ≠ l2[j] → decide (l = l2) = false) := Lib.hid (fun hx => decide_eq_false (fun e => hx (by subst e; rfl)))
      generalize l[j] = x at *
      generalize l2[j] = x2 at *
      clear a_wr
      by_cases h : x = x2
      · subst h
        go_wp2_with fail
        go_quiet (fail)
        go_wp2_with fail
        go_roundg (n - (j + 1))
        case measure => omega
        case rel => exact ⟨HA.out.drewN _, j + 1, rfl, hlt, by go_num, by rw [HT.out.1, HT.out.2, HF.out]⟩
      · have Q := Lib.hid (HD.out h)
        have hx : (x != x2) = true := by simpa using h
        clear HD HT
        go_wp2_with fail
        go_quiet (fail)
        go_wp2_with fail
        go_ret
        exact ⟨ret_bool Q.out.symm, HA.out.drewN _⟩
    · obtain rfl : j = n := by omega
      have Q : Hid (decide (l = l2) = true) := Lib.hid (decide_eq_true (by
        have := HF.out
        rwa [List.take_of_length_le (Nat.le_of_eq HL.out), List.take_of_length_le (Nat.le_of_eq HL2.out)] at this))
      clear a_wr
      go_wp2_with fail
      go_ret
      exact ⟨ret_bool Q.out.symm, HA.out⟩
theorem same_apart (A A2 : Option Addr) (n n2 cap cap2 : Nat) (w : World) (h : n ≠ n2) :
    Calls Try.prog 20 #[.slice A n cap, .slice A2 n2 cap2] w fun e w' => e = .returned (.bool false) ∧ w = w' := by
  have h1 : ((n : Int) != (n2 : Int)) = true := by simp; omega
  clear h
  go_enter Try.func20, Try.ntmps20
  go_wp2_with fail
  go_ret
  exact ⟨rfl, rfl⟩
theorem same_none (A A2 : Option Addr) (cap cap2 : Nat) (w : World) :
    Calls Try.prog 20 #[.slice A 0 cap, .slice A2 0 cap2] w fun e w' => e = .returned (.bool true) ∧ w = w' := by
  go_enter Try.func20, Try.ntmps20
  go_wp2_with fail
  refine wp_loop_rounds 1 ?_
  rw [rounds_succ]
  go_wp2_with fail
  go_ret
  exact ⟨rfl, rfl⟩
/-- Same of any two slices of pixels -/
theorem same_any (v v2 : Value) (l l2 : List Int) (w : World) (c : Bool) (hcc : decide (l = l2) = c) (h : RU w v l) (h2 : RU w v2 l2) (hn : l.length ≤ 100000) :
    Calls Try.prog 20 #[v, v2] w fun e w' => e = .returned (.bool c) ∧ AnyLater w w' := by
  subst hcc
  obtain ⟨A, cap, rfl, p1, p2⟩ := h
  obtain ⟨A2, cap2, rfl, q1, q2⟩ := h2
  by_cases hle : l.length = l2.length
  · rcases Nat.eq_zero_or_pos l.length with h0 | h0
    · have e1 := List.eq_nil_of_length_eq_zero h0
      have e2 := List.eq_nil_of_length_eq_zero (hle.symm.trans h0)
      subst e1; subst e2
      exact same_later (same_none A A2 cap cap2 w)
    · obtain ⟨b, off, rfl, hb, hc⟩ := p2 h0
      obtain ⟨b2, off2, rfl, hb2, hc2⟩ := q2 (by omega)
      rw [← hle]
      exact same_some b off _ cap b2 off2 cap2 l l2 w rfl hle.symm hn hc hc2 hb hb2
  · have e : decide (l = l2) = false := decide_eq_false (fun h => hle (by rw [h]))
    rw [e]
    exact same_later (same_apart A A2 _ _ cap cap2 w hle)
end Go.Proofs.Ytbgpjfiabefajaa
