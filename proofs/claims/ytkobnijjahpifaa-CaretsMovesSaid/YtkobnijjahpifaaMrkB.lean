/- mark: the document's All (what is left of spans) and Same (whether two lists of spans are one) by contract. -/
import Derived.Test.YtkobnijjahpifaaMrkQ
import Derived.Laws.StructEq
import Derived.Deep.QuietTactic
namespace Go.Proofs.Ytkobnijjahpifaa
set_option linter.unusedSimpArgs false
set_option linter.unusedVariables false
set_option linter.unusedSectionVars false
open Go.RowKit

/-! ### Same -/
theorem stood_span : Try.prog.stoodInHeld 37 = false := by kernel_rfl
theorem fields_span : Try.prog.underlying 37 = some (.struct (Try.prog.fieldsOf 37)) := by kernel_rfl
theorem guard_span : Try.prog.eqGuardType Try.prog.depth 37 = false := by kernel_rfl
theorem eqSpan (a b c d : Int) (w : World) : (Op.equalIn 10000 37 (.agg #[.int .i64 a, .int .i64 b]) (.agg #[.int .i64 c, .int .i64 d])).run Try.prog w = .ok (a == c && b == d) w := by
  rw [run_equalIn_agg w 9999 _ _ _ fields_span stood_span]
  by_cases h1 : a = c
  · by_cases h2 : b = d
    · simp [go_sem, h1, h2]
    · simp [go_sem, h1, h2]
  · simp [go_sem, h1]
theorem neqSpan (a b c d : Int) (w : World) : (binOp .neq 37 (.agg #[.int .i64 a, .int .i64 b]) (.agg #[.int .i64 c, .int .i64 d])).run Try.prog w = .ok (.bool (!(a == c && b == d))) w := by
  rw [run_neq_struct, eqSpan]; rfl
theorem eqlSpan (a b c d : Int) (w : World) : (binOp .eql 37 (.agg #[.int .i64 a, .int .i64 b]) (.agg #[.int .i64 c, .int .i64 d])).run Try.prog w = .ok (.bool (a == c && b == d)) w := by
  rw [run_eql_struct, eqSpan]; rfl
set_option maxRecDepth 100000 in
set_option maxHeartbeats 1600000 in
theorem qsame_some (b off n cap b2 off2 cap2 : Nat) (l l2 : Qs) (w : World) (hl : l.length = n) (hl2 : l2.length = n) (hn : n ≤ 100000) (hc : ∀ (j : Nat) (h : j < l.length), w.cell? ⟨b, off + j * 2, none⟩ = some (.int .i64 l[j].1) ∧ w.cell? ⟨b, off + j * 2 + 1, none⟩ = some (.int .i64 l[j].2))
    (hc2 : ∀ (j : Nat) (h : j < l2.length), w.cell? ⟨b2, off2 + j * 2, none⟩ = some (.int .i64 l2[j].1) ∧ w.cell? ⟨b2, off2 + j * 2 + 1, none⟩ = some (.int .i64 l2[j].2)) (hb : b < w.heap.size) (hb2 : b2 < w.heap.size) :
    Calls Try.prog 18 #[.slice (some ⟨b, off, none⟩) n cap, .slice (some ⟨b2, off2, none⟩) n cap2] w fun e w' => e = .returned (.bool (decide (l = l2))) ∧ AnyLater w w' := by
  have HL := Lib.hid hl
  have HL2 := Lib.hid hl2
  have HC := Lib.hid hc
  have HC2 := Lib.hid hc2
  have gb := guard_span
  have nb := neqSpan
  clear hl hc hl2 hc2
  go_enter Try.func18, Try.ntmps18
  go_wp2_with fail
  go_loopg [5] n (fun k i wr => AnyLater w wr ∧ ∃ j : Nat, k = n - j ∧ j ≤ n ∧ i = .int .i64 j ∧ l.take j = l2.take j)
  case atStart => exact ⟨AnyLater.refl _, 0, by omega, by omega, rfl, by simp⟩
  case round =>
    obtain ⟨a_wr, j, hk, hj, rfl, hf⟩ := hrel
    have HF := Lib.hid hf
    have HA := Lib.hid a_wr
    clear hf
    by_cases hlt : j < n
    · have lj : j < l.length := by rw [HL.out]; exact hlt
      have lj2 : j < l2.length := by rw [HL2.out]; exact hlt
      have i1 : (j : Int) < (n : Int) := by omega
      have c0 : wr.cell? ⟨b, off + j * 2, none⟩ = some (.int .i64 l[j].1) := (a_wr.below.cell hb).trans (HC.out j lj).1
      have c1 : wr.cell? ⟨b, off + j * 2 + 1, none⟩ = some (.int .i64 l[j].2) := (a_wr.below.cell hb).trans (HC.out j lj).2
      have d0 : wr.cell? ⟨b2, off2 + j * 2, none⟩ = some (.int .i64 l2[j].1) := (a_wr.below.cell hb2).trans (HC2.out j lj2).1
      have d1 : wr.cell? ⟨b2, off2 + j * 2 + 1, none⟩ = some (.int .i64 l2[j].2) := (a_wr.below.cell hb2).trans (HC2.out j lj2).2
      have HT : Hid (l.take (j + 1) = l.take j ++ [l[j]] ∧ l2.take (j + 1) = l2.take j ++ [l2[j]]) := Lib.hid ⟨List.take_succ_eq_append_getElem lj, List.take_succ_eq_append_getElem lj2⟩
      have HD : Hid (l[j] ≠ l2[j] → decide (l = l2) = false) := Lib.hid (fun hx => decide_eq_false (fun e => hx (by subst e; rfl)))
      generalize l[j] = x at *
      generalize l2[j] = x2 at *
      obtain ⟨f, t⟩ := x
      obtain ⟨f2, t2⟩ := x2
      simp only at c0 c1 d0 d1
      clear a_wr
      by_cases h : f = f2 ∧ t = t2
      · obtain ⟨rfl, rfl⟩ := h
        go_wp2_with fail
        go_quiet (fail)
        go_wp2_with fail
        go_roundg (n - (j + 1))
        case measure => omega
        case rel => exact ⟨HA.out.drewN _, j + 1, rfl, hlt, by go_num, by rw [HT.out.1, HT.out.2, HF.out]⟩
      · have hd : (f == f2 && t == t2) = false := by
          rw [Bool.and_eq_false_iff]
          by_cases h1 : f = f2
          · right; simp; exact fun e => h ⟨h1, e⟩
          · left; simpa using h1
        have Q := Lib.hid (HD.out (fun e => h ⟨(Prod.mk.inj e).1, (Prod.mk.inj e).2⟩))
        clear h HD HT
        go_wp2_with fail
        go_quiet (fail)
        go_wp2_with fail
        go_ret
        exact ⟨ret_bool Q.out.symm, HA.out.drewN _⟩
    · obtain rfl : j = n := by omega
      have Q : Hid (decide (l = l2) = true) := Lib.hid (decide_eq_true (by
        have := HF.out
        rwa [List.take_of_length_le (Nat.le_of_eq HL.out), List.take_of_length_le (Nat.le_of_eq HL2.out)] at this))
      clear a_wr
      go_wp2_with fail
      go_ret
      exact ⟨ret_bool Q.out.symm, HA.out⟩
theorem qsame_apart (A A2 : Option Addr) (n n2 cap cap2 : Nat) (w : World) (h : n ≠ n2) :
    Calls Try.prog 18 #[.slice A n cap, .slice A2 n2 cap2] w fun e w' => e = .returned (.bool false) ∧ w = w' := by
  have h1 : ((n : Int) != (n2 : Int)) = true := by simp; omega
  clear h
  go_enter Try.func18, Try.ntmps18
  go_wp2_with fail
  go_ret
  exact ⟨rfl, rfl⟩
theorem qsame_none (A A2 : Option Addr) (cap cap2 : Nat) (w : World) :
    Calls Try.prog 18 #[.slice A 0 cap, .slice A2 0 cap2] w fun e w' => e = .returned (.bool true) ∧ w = w' := by
  go_enter Try.func18, Try.ntmps18
  go_wp2_with fail
  refine wp_loop_rounds 1 ?_
  rw [rounds_succ]
  go_wp2_with fail
  go_ret
  exact ⟨rfl, rfl⟩
/-- Same of any two lists of spans -/
theorem qsame_any (v v2 : Value) (l l2 : Qs) (w : World) (c : Bool) (hcc : decide (l = l2) = c) (h : QR w v l) (h2 : QR w v2 l2) (hn : l.length ≤ 100000) :
    Calls Try.prog 18 #[v, v2] w fun e w' => e = .returned (.bool c) ∧ AnyLater w w' := by
  subst hcc
  obtain ⟨A, cap, rfl, k1, k2⟩ := h
  obtain ⟨A2, cap2, rfl, m1, m2⟩ := h2
  by_cases hl : l.length = l2.length
  · rcases Nat.eq_zero_or_pos l.length with h0 | h0
    · obtain rfl := List.eq_nil_of_length_eq_zero h0
      obtain rfl := List.eq_nil_of_length_eq_zero (hl.symm.trans h0)
      exact same_later (qsame_none A A2 cap cap2 w)
    · obtain ⟨b, off, rfl, hb, hc⟩ := k2 h0
      obtain ⟨b2, off2, rfl, hb2, hc2⟩ := m2 (by omega)
      rw [← hl]
      exact qsame_some b off _ cap b2 off2 cap2 l l2 w rfl hl.symm hn hc hc2 hb hb2
  · have e : decide (l = l2) = false := decide_eq_false (fun e => hl (by rw [e]))
    rw [e]
    exact same_later (qsame_apart A A2 _ _ cap cap2 w hl)
end Go.Proofs.Ytkobnijjahpifaa
