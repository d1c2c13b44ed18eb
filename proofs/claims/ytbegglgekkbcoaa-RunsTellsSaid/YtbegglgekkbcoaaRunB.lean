/- runs: rows of runs in memory; Same, whether two lists of runs are one; few, the first sixty of any, in memory of their own. -/
import Derived.Test.YtbegglgekkbcoaaRunA
import Derived.Test.YtbegglgekkbcoaaOwn
import Derived.Test.YtbegglgekkbcoaaChecked
import Derived.Deep.LoopGhost
import Derived.LoopN
import Derived.Laws.StructEq
import Derived.Deep.QuietTactic
namespace Go.Proofs.Ytbegglgekkbcoaa
set_option linter.unusedSimpArgs false
set_option linter.unusedVariables false
set_option linter.unusedSectionVars false
open Go.RowKit

/-- a slice that reads as these runs -/
def RRn (w : World) (v : Value) (l : Runs) : Prop := ∃ (A : Option Addr) (cap : Nat), v = .slice A l.length cap ∧ l.length ≤ cap ∧ (0 < l.length → ∃ b off, A = some ⟨b, off, none⟩ ∧ b < w.heap.size ∧ ∀ (j : Nat) (h : j < l.length), w.cell? ⟨b, off + j * 2, none⟩ = some (.int .i64 l[j].1) ∧ w.cell? ⟨b, off + j * 2 + 1, none⟩ = some (.int .i64 l[j].2))
theorem RRn.later {w w' : World} {v : Value} {l : Runs} (h : RRn w v l) (ha : AnyLater w w') : RRn w' v l := by
  obtain ⟨A, cap, h1, h2, h3⟩ := h
  refine ⟨A, cap, h1, h2, fun h0 => ?_⟩
  obtain ⟨b, off, e, hb, hc⟩ := h3 h0
  exact ⟨b, off, e, Nat.lt_of_lt_of_le hb ha.below.size, fun j hj => ⟨(ha.below.cell hb).trans (hc j hj).1, (ha.below.cell hb).trans (hc j hj).2⟩⟩
/-! ### a list of runs as cells -/
def flatN (l : Runs) : List Value := l.flatMap fun b => [.int .i64 b.1, .int .i64 b.2]
theorem flatN_nil : flatN [] = [] := rfl
theorem flatN_cons (b : Int × Int) (l : Runs) : flatN (b :: l) = .int .i64 b.1 :: .int .i64 b.2 :: flatN l := rfl
theorem flatN_append (a b : Runs) : flatN (a ++ b) = flatN a ++ flatN b := by unfold flatN; rw [List.flatMap_append]
theorem flatN_length : ∀ l : Runs, (flatN l).length = l.length * 2
  | [] => rfl
  | b :: l => by rw [flatN_cons, List.length_cons, List.length_cons, flatN_length l, List.length_cons]; omega
theorem flatN_0 : ∀ (l : Runs) (j : Nat), (flatN l)[j * 2]? = (l[j]?).map fun b => .int .i64 b.1
  | [], j => by simp [flatN_nil]
  | b :: l, 0 => rfl
  | b :: l, j + 1 => by
    rw [flatN_cons, show (j + 1) * 2 = j * 2 + 1 + 1 by omega, List.getElem?_cons_succ, List.getElem?_cons_succ, flatN_0 l j, List.getElem?_cons_succ]
theorem flatN_1 : ∀ (l : Runs) (j : Nat), (flatN l)[j * 2 + 1]? = (l[j]?).map fun b => .int .i64 b.2
  | [], j => by simp [flatN_nil]
  | b :: l, 0 => rfl
  | b :: l, j + 1 => by
    rw [flatN_cons, show (j + 1) * 2 + 1 = j * 2 + 1 + 1 + 1 by omega, List.getElem?_cons_succ, List.getElem?_cons_succ, flatN_1 l j, List.getElem?_cons_succ]
theorem flatN_one (l : Runs) : ∀ u ∈ flatN l, u.oneCell' = true := by
  intro u hu
  obtain ⟨b, _, hb⟩ := List.mem_flatMap.1 hu
  rcases List.mem_cons.1 hb with rfl | hb
  · rfl
  · rcases List.mem_cons.1 hb with rfl | hb
    · rfl
    · cases hb
/-- a row of runs that a call made itself -/
def ORn (w : World) (B : Nat) (v : Value) (l : Runs) : Prop := w.ownsRow B 45 2 v l.length (flatN l)
theorem ORn.reads {w : World} {B : Nat} {v : Value} {l : Runs} (h : ORn w B v l) : RRn w v l := by
  rcases h.2 with ⟨rfl, h0⟩ | ⟨g, cap, cur, rfl, h2, h3, h4, h5, h6, h7⟩
  · refine ⟨none, 0, by rw [h0], by omega, fun hp => by omega⟩
  · refine ⟨some ⟨g, 0, none⟩, cap, rfl, h4, fun _ => ⟨g, 0, rfl, own_lt h3, fun j hj => ?_⟩⟩
    have e : ∀ k, k < l.length * 2 → cur[k]? = (flatN l)[k]? := fun k hk => by
      have : (cur.toList.take (l.length * 2))[k]? = (flatN l)[k]? := by rw [h7]
      rw [List.getElem?_take_of_lt hk] at this
      simpa using this
    rw [Nat.zero_add, own_row h3, own_row h3, e _ (by omega), e _ (by omega), flatN_0, flatN_1, List.getElem?_eq_getElem hj]
    exact ⟨rfl, rfl⟩
theorem ORn.later {w w' : World} {B : Nat} {v : Value} {l : Runs} (h : ORn w B v l) (ha : AnyLater w w') : ORn w' B v l := owns_later ha h
/-- what a list of runs holds, as the source of an append -/
theorem RRn.cells {w w' : World} {b off : Nat} {l : Runs} (ha : AnyLater w w') (hb : 0 < l.length → b < w.heap.size) (hc : ∀ (j : Nat) (h : j < l.length), w.cell? ⟨b, off + j * 2, none⟩ = some (.int .i64 l[j].1) ∧ w.cell? ⟨b, off + j * 2 + 1, none⟩ = some (.int .i64 l[j].2)) :
    ∀ (j : Nat) (u : Value), (flatN l)[j]? = some u → w'.cell? ((⟨b, off, none⟩ : Addr).add j) = some u := by
  intro j u hu
  have hadd : (⟨b, off, none⟩ : Addr).add j = ⟨b, off + j, none⟩ := by unfold Addr.add; split <;> simp_all
  have hj : j < l.length * 2 := by
    rcases Nat.lt_or_ge j (l.length * 2) with h | h
    · exact h
    · rw [List.getElem?_eq_none (by rw [flatN_length]; exact h)] at hu; cases hu
  have hk : j / 2 < l.length := by omega
  rw [hadd, ha.below.cell (hb (by omega))]
  rcases Nat.mod_two_eq_zero_or_one j with hm | hm
  · have e : j = j / 2 * 2 := by omega
    rw [e] at hu ⊢
    rw [flatN_0, List.getElem?_eq_getElem hk] at hu
    rw [(hc _ hk).1]; exact hu
  · have e : j = j / 2 * 2 + 1 := by omega
    rw [e] at hu ⊢
    rw [flatN_1, List.getElem?_eq_getElem hk] at hu
    rw [← Nat.add_assoc, (hc _ hk).2]; exact hu

theorem info_run : (Try.prog.info? 45).map (fun i => (i.zero, i.size, i.bytes)) = some (some (.agg #[.int .i64 0, .int .i64 0]), 2, 16) := by kernel_rfl
theorem own_run0 (w : World) : ORn (w.alloc (.cells #[] 45)) w.heap.size (.slice (some ⟨w.heap.size, 0, none⟩) 0 0) [] :=
  ⟨rfl, .inr ⟨w.heap.size, 0, #[], rfl, Nat.le_refl _, heap_new rfl, Nat.le_refl _, Nat.zero_le _, rfl, rfl⟩⟩

/-! ### few -/
def RowN (W : World) (l : Runs) (e : Ending) (w' : World) : Prop := ∃ v, e = .returned v ∧ AnyLater W w' ∧ ORn w' W.heap.size v l
theorem rfew_short (A : Option Addr) (b off n cap : Nat) (l : Runs) (w : World) (hl : l.length = n) (hn : n ≤ 60) (hA : A = some ⟨b, off, none⟩) (hb : 0 < l.length → b < w.heap.size) (hc : ∀ (j : Nat) (h : j < l.length), w.cell? ⟨b, off + j * 2, none⟩ = some (.int .i64 l[j].1) ∧ w.cell? ⟨b, off + j * 2 + 1, none⟩ = some (.int .i64 l[j].2)) :
    Calls Try.prog 8 #[.slice A n cap] w (RowN w l) := by
  subst hA
  obtain ⟨i0, hi0, hz0, hz1, hz2⟩ := info_parts info_run
  have HC := Lib.hid (RRn.cells ((AnyLater.refl w).alloc (.cells #[] 45)) hb hc)
  have HN := Lib.hid hl
  have k1 : decide ((60 : Int) < (n : Int)) = false := by simp; omega
  have HL := Lib.hid (And.intro ((AnyLater.refl w).alloc (.cells #[] 45)) (own_run0 w))
  clear hc hl
  go_enter Try.func8, Try.ntmps8
  go_wp2_with (at_builtin; refine wpList_append_own _ rfl _ _ 22 rfl w.heap.size 45 i0 (.agg #[.int .i64 0, .int .i64 0]) 2 16 Try.underlying22 hi0 hz0 hz1 hz2 rfl (by decide) _ 0 [] rfl HL.out.2 ⟨b, off, none⟩ n cap (flatN l) rfl (by rw [flatN_length, HN.out]) HC.out (flatN_one l) (by unfold maxLen; omega) (by omega) (by simp) ?_; intro v' w1 hown1 hgrow hnil)
  have H : Hid (AnyLater w w1 ∧ ORn w1 w.heap.size v' l) := Lib.hid ⟨grown_later HL.out.1 hgrow (fun k hk => by cases hk; exact Nat.le_refl _), by unfold ORn; rw [HN.out]; simpa using hown1⟩
  clear hown1 hgrow hnil
  go_wp2_with fail
  go_ret
  exact ⟨_, rfl, H.out⟩
theorem rfew_long (A : Option Addr) (b off n cap : Nat) (l : Runs) (w : World) (hl : l.length = 60) (h1 : 60 < n) (h2 : n ≤ cap) (hA : A = some ⟨b, off, none⟩) (hb : 0 < l.length → b < w.heap.size) (hc : ∀ (j : Nat) (h : j < l.length), w.cell? ⟨b, off + j * 2, none⟩ = some (.int .i64 l[j].1) ∧ w.cell? ⟨b, off + j * 2 + 1, none⟩ = some (.int .i64 l[j].2)) :
    Calls Try.prog 8 #[.slice A n cap] w (RowN w l) := by
  subst hA
  obtain ⟨i0, hi0, hz0, hz1, hz2⟩ := info_parts info_run
  have HC := Lib.hid (RRn.cells ((AnyLater.refl w).alloc (.cells #[] 45)) hb hc)
  have HN := Lib.hid hl
  have k1 : (60 : Int) < (n : Int) := by omega
  have k2 : (60 : Int) ≤ (cap : Int) := by omega
  have HL := Lib.hid (And.intro ((AnyLater.refl w).alloc (.cells #[] 45)) (own_run0 w))
  clear hc hl
  go_enter Try.func8, Try.ntmps8
  go_wp2_with (at_builtin; refine wpList_append_own _ rfl _ _ 22 rfl w.heap.size 45 i0 (.agg #[.int .i64 0, .int .i64 0]) 2 16 Try.underlying22 hi0 hz0 hz1 hz2 rfl (by decide) _ 0 [] rfl HL.out.2 ⟨b, off, none⟩ 60 cap (flatN l) rfl (by rw [flatN_length, HN.out]) HC.out (flatN_one l) (by unfold maxLen; omega) (by omega) (by simp) ?_; intro v' w1 hown1 hgrow hnil)
  have H : Hid (AnyLater w w1 ∧ ORn w1 w.heap.size v' l) := Lib.hid ⟨grown_later HL.out.1 hgrow (fun k hk => by cases hk; exact Nat.le_refl _), by unfold ORn; rw [HN.out]; simpa using hown1⟩
  clear hown1 hgrow hnil
  go_wp2_with fail
  go_ret
  exact ⟨_, rfl, H.out⟩
theorem rfew_zero_none (cap : Nat) (w : World) : Calls Try.prog 8 #[.slice none 0 cap] w (RowN w []) := by
  have HL := Lib.hid (And.intro ((AnyLater.refl w).alloc (.cells #[] 45)) (own_run0 w))
  go_enter Try.func8, Try.ntmps8
  go_wp2_with fail
  go_ret
  exact ⟨_, rfl, HL.out⟩
theorem rfew_zero_some (ad : Addr) (cap : Nat) (w : World) : Calls Try.prog 8 #[.slice (some ad) 0 cap] w (RowN w []) := by
  obtain ⟨i0, hi0, hz0, hz1, hz2⟩ := info_parts info_run
  have HL := Lib.hid (And.intro ((AnyLater.refl w).alloc (.cells #[] 45)) (own_run0 w))
  go_enter Try.func8, Try.ntmps8
  go_wp2_with (at_builtin; refine wpList_append_own _ rfl _ _ 22 rfl w.heap.size 45 i0 (.agg #[.int .i64 0, .int .i64 0]) 2 16 Try.underlying22 hi0 hz0 hz1 hz2 rfl (by decide) _ 0 [] rfl HL.out.2 ad 0 cap [] rfl rfl (by simp) (by simp) (by unfold maxLen; omega) (by omega) (by simp) ?_; intro v' w1 hown1 hgrow hnil)
  have H : Hid (AnyLater w w1 ∧ ORn w1 w.heap.size v' []) := Lib.hid ⟨grown_later HL.out.1 hgrow (fun k hk => by cases hk; exact Nat.le_refl _), hown1⟩
  clear hown1 hgrow hnil
  go_wp2_with fail
  go_ret
  exact ⟨_, rfl, H.out⟩
/-- few of any runs -/
theorem rfew_any (v : Value) (l : Runs) (w : World) (h : RRn w v l) : Calls Try.prog 8 #[v] w (RowN w (l.take 60)) := by
  obtain ⟨A, cap, rfl, h2, h3⟩ := h
  rcases Nat.eq_zero_or_pos l.length with h0 | h0
  · obtain rfl := List.eq_nil_of_length_eq_zero h0
    cases A with
    | none => exact rfew_zero_none cap w
    | some ad => exact rfew_zero_some ad cap w
  · obtain ⟨b, off, hA, hb, hc⟩ := h3 h0
    rcases Nat.lt_or_ge 60 l.length with h | h
    · have hl : (l.take 60).length = 60 := by rw [List.length_take]; omega
      refine rfew_long A b off _ cap (l.take 60) w hl h h2 hA (fun _ => hb) (fun j hj => ?_)
      have hj' : j < l.length := by rw [hl] at hj; omega
      rw [List.getElem_take]
      exact hc j hj'
    · have := rfew_short A b off _ cap l w rfl h hA (fun _ => hb) hc
      rwa [List.take_of_length_le h]

/-! ### Same -/
theorem stood_run : Try.prog.stoodInHeld 45 = false := by kernel_rfl
theorem fields_run : Try.prog.underlying 45 = some (.struct (Try.prog.fieldsOf 45)) := by kernel_rfl
theorem guard_run : Try.prog.eqGuardType Try.prog.depth 45 = false := by kernel_rfl
theorem eqRun (a b c d : Int) (w : World) : (Op.equalIn 10000 45 (.agg #[.int .i64 a, .int .i64 b]) (.agg #[.int .i64 c, .int .i64 d])).run Try.prog w = .ok (a == c && b == d) w := by
  rw [run_equalIn_agg w 9999 _ _ _ fields_run stood_run]
  by_cases h1 : a = c
  · by_cases h2 : b = d
    · simp [go_sem, h1, h2]
    · simp [go_sem, h1, h2]
  · simp [go_sem, h1]
theorem neqRun (a b c d : Int) (w : World) : (binOp .neq 45 (.agg #[.int .i64 a, .int .i64 b]) (.agg #[.int .i64 c, .int .i64 d])).run Try.prog w = .ok (.bool (!(a == c && b == d))) w := by
  rw [run_neq_struct, eqRun]; rfl
theorem eqlRun (a b c d : Int) (w : World) : (binOp .eql 45 (.agg #[.int .i64 a, .int .i64 b]) (.agg #[.int .i64 c, .int .i64 d])).run Try.prog w = .ok (.bool (a == c && b == d)) w := by
  rw [run_eql_struct, eqRun]; rfl

set_option maxRecDepth 100000 in
set_option maxHeartbeats 1600000 in
theorem rsame_some (b off n cap b2 off2 cap2 : Nat) (l l2 : Runs) (w : World) (hl : l.length = n) (hl2 : l2.length = n) (hn : n ≤ 100000) (hc : ∀ (j : Nat) (h : j < l.length), w.cell? ⟨b, off + j * 2, none⟩ = some (.int .i64 l[j].1) ∧ w.cell? ⟨b, off + j * 2 + 1, none⟩ = some (.int .i64 l[j].2))
    (hc2 : ∀ (j : Nat) (h : j < l2.length), w.cell? ⟨b2, off2 + j * 2, none⟩ = some (.int .i64 l2[j].1) ∧ w.cell? ⟨b2, off2 + j * 2 + 1, none⟩ = some (.int .i64 l2[j].2)) (hb : b < w.heap.size) (hb2 : b2 < w.heap.size) :
    Calls Try.prog 13 #[.slice (some ⟨b, off, none⟩) n cap, .slice (some ⟨b2, off2, none⟩) n cap2] w fun e w' => e = .returned (.bool (decide (l = l2))) ∧ AnyLater w w' := by
  have HL := Lib.hid hl
  have HL2 := Lib.hid hl2
  have HC := Lib.hid hc
  have HC2 := Lib.hid hc2
  have gb := guard_run
  have nb := neqRun
  clear hl hc hl2 hc2
  go_enter Try.func13, Try.ntmps13
  go_wp2_with fail
  go_loopg [5] n (fun k i wr => AnyLater w wr ∧ ∃ j : Nat, k = n - j ∧ j ≤ n ∧ i = .int .i64 j ∧ l.take j = l2.take j)
  case atStart => exact ⟨AnyLater.refl _, 0, by omega, by omega, rfl, by simp⟩
  case round =>
    obtain ⟨a_wr, j, hk, hj, rfl, hf⟩ := hrel
    have HF := Lib.hid hf
    have HA := Lib.hid a_wr
    clear hf
    by_cases hlt : j < n
    · have lj : j < l.length := by rw [HL.out]; exact hlt
      have lj2 : j < l2.length := by rw [HL2.out]; exact hlt
      have i1 : (j : Int) < (n : Int) := by omega
      have c0 : wr.cell? ⟨b, off + j * 2, none⟩ = some (.int .i64 l[j].1) := (a_wr.below.cell hb).trans (HC.out j lj).1
      have c1 : wr.cell? ⟨b, off + j * 2 + 1, none⟩ = some (.int .i64 l[j].2) := (a_wr.below.cell hb).trans (HC.out j lj).2
      have d0 : wr.cell? ⟨b2, off2 + j * 2, none⟩ = some (.int .i64 l2[j].1) := (a_wr.below.cell hb2).trans (HC2.out j lj2).1
      have d1 : wr.cell? ⟨b2, off2 + j * 2 + 1, none⟩ = some (.int .i64 l2[j].2) := (a_wr.below.cell hb2).trans (HC2.out j lj2).2
      have HT : Hid (l.take (j + 1) = l.take j ++ [l[j]] ∧ l2.take (j + 1) = l2.take j ++ [l2[j]]) := Lib.hid ⟨List.take_succ_eq_append_getElem lj, List.take_succ_eq_append_getElem lj2⟩
      have HD : Hid (l[j] ≠ l2[j] → decide (l = l2) = false) := Lib.hid (fun hx => decide_eq_false (fun e => hx (by subst e; rfl)))
      generalize l[j] = x at *
      generalize l2[j] = x2 at *
      obtain ⟨f, t⟩ := x
      obtain ⟨f2, t2⟩ := x2
      simp only at c0 c1 d0 d1
      clear a_wr
      by_cases h : f = f2 ∧ t = t2
      · obtain ⟨rfl, rfl⟩ := h
        go_wp2_with fail
        go_quiet (fail)
        go_wp2_with fail
        go_roundg (n - (j + 1))
        case measure => omega
        case rel => exact ⟨HA.out.drewN _, j + 1, rfl, hlt, by go_num, by rw [HT.out.1, HT.out.2, HF.out]⟩
      · have hd : (f == f2 && t == t2) = false := by
          rw [Bool.and_eq_false_iff]
          by_cases h1 : f = f2
          · right; simp; exact fun e => h ⟨h1, e⟩
          · left; simpa using h1
        have Q := Lib.hid (HD.out (fun e => h ⟨(Prod.mk.inj e).1, (Prod.mk.inj e).2⟩))
        clear h HD HT
        go_wp2_with fail
        go_quiet (fail)
        go_wp2_with fail
        go_ret
        exact ⟨ret_bool Q.out.symm, HA.out.drewN _⟩
    · obtain rfl : j = n := by omega
      have Q : Hid (decide (l = l2) = true) := Lib.hid (decide_eq_true (by
        have := HF.out
        rwa [List.take_of_length_le (Nat.le_of_eq HL.out), List.take_of_length_le (Nat.le_of_eq HL2.out)] at this))
      clear a_wr
      go_wp2_with fail
      go_ret
      exact ⟨ret_bool Q.out.symm, HA.out⟩
theorem rsame_apart (A A2 : Option Addr) (n n2 cap cap2 : Nat) (w : World) (h : n ≠ n2) :
    Calls Try.prog 13 #[.slice A n cap, .slice A2 n2 cap2] w fun e w' => e = .returned (.bool false) ∧ w = w' := by
  have h1 : ((n : Int) != (n2 : Int)) = true := by simp; omega
  clear h
  go_enter Try.func13, Try.ntmps13
  go_wp2_with fail
  go_ret
  exact ⟨rfl, rfl⟩
theorem rsame_none (A A2 : Option Addr) (cap cap2 : Nat) (w : World) :
    Calls Try.prog 13 #[.slice A 0 cap, .slice A2 0 cap2] w fun e w' => e = .returned (.bool true) ∧ w = w' := by
  go_enter Try.func13, Try.ntmps13
  go_wp2_with fail
  refine wp_loop_rounds 1 ?_
  rw [rounds_succ]
  go_wp2_with fail
  go_ret
  exact ⟨rfl, rfl⟩
/-- Same of any two lists of runs -/
theorem rsame_any (v v2 : Value) (l l2 : Runs) (w : World) (c : Bool) (hcc : decide (l = l2) = c) (h : RRn w v l) (h2 : RRn w v2 l2) (hn : l.length ≤ 100000) :
    Calls Try.prog 13 #[v, v2] w fun e w' => e = .returned (.bool c) ∧ AnyLater w w' := by
  subst hcc
  obtain ⟨A, cap, rfl, k1, k2⟩ := h
  obtain ⟨A2, cap2, rfl, m1, m2⟩ := h2
  by_cases hl : l.length = l2.length
  · rcases Nat.eq_zero_or_pos l.length with h0 | h0
    · obtain rfl := List.eq_nil_of_length_eq_zero h0
      obtain rfl := List.eq_nil_of_length_eq_zero (hl.symm.trans h0)
      exact same_later (rsame_none A A2 cap cap2 w)
    · obtain ⟨b, off, rfl, hb, hc⟩ := k2 h0
      obtain ⟨b2, off2, rfl, hb2, hc2⟩ := m2 (by omega)
      rw [← hl]
      exact rsame_some b off _ cap b2 off2 cap2 l l2 w rfl hl.symm hn hc hc2 hb hb2
  · have e : decide (l = l2) = false := decide_eq_false (fun e => hl (by rw [e]))
    rw [e]
    exact same_later (rsame_apart A A2 _ _ cap cap2 w hl)
end Go.Proofs.Ytbegglgekkbcoaa
