/- wrap: the document's Same, slices.Equal, Good and Of; lives: by contract. -/
import Derived.Test.YtcbcbblclpongaaWrpB
import Derived.Laws.StructEq
import Derived.BigQuiet
import Derived.Lib.AppendZeros
namespace Go.Proofs.Ytcbcbblclpongaa
set_option linter.unusedSimpArgs false
set_option linter.unusedVariables false
set_option linter.unusedSectionVars false
open Go.RowKit

/-- an append under a guard that is met -/
theorem wappend_met {P : Program} (w : World) {ops : Array Oper} {rest : List Oper} {o : Oper} {a : Act} {Q : Exit → Act → World → Prop} (hw : Region.wanted o (yielded ops a.tmps) = true) (s x : Operand) (t tn : TypeId)
    (ho : o.op = .call { callee := .builtin .append, args := #[s, x], argTypes := #[t, tn] }) (vs vx : Value) (hs : a.eval s = vs) (hx : a.eval x = vx)
    (v' : Value) (w' : World) (hr : (Builtin.append_ #[t, tn] o.type #[vs, vx]).run P w = .ok v' w') (h : wpList P ops Q rest (a.put o.dst v') w') : wpList P ops Q (o :: rest) a w := by
  unfold wpList
  rw [if_pos hw]
  exact .inl (Lib.wp_append_run w s x t tn ho vs vx hs hx v' w' hr h)
theorem wstood : Try.prog.stoodInHeld 31 = false := by kernel_rfl
theorem wfields : Try.prog.underlying 31 = some (.struct (Try.prog.fieldsOf 31)) := by kernel_rfl
theorem wguard : Try.prog.eqGuardType Try.prog.depth 31 = false := by kernel_rfl
theorem eqRw (a n s a2 n2 s2 : Int) (w : World) : (Op.equalIn 10000 31 (.agg #[.int .i64 a, .int .i64 n, .int .i64 s]) (.agg #[.int .i64 a2, .int .i64 n2, .int .i64 s2])).run Try.prog w = .ok (decide ((a, n, s) = (a2, n2, s2))) w := by
  rw [run_equalIn_agg w 9999 _ _ _ wfields wstood]
  by_cases h1 : a = a2
  · by_cases h2 : n = n2
    · by_cases h4 : s = s2
      · simp [go_sem, h1, h2, h4]
      · simp [go_sem, h1, h2, h4]
    · simp [go_sem, h1, h2]
  · simp [go_sem, h1]
theorem neqRw (a n s a2 n2 s2 : Int) (w : World) : (binOp .neq 31 (.agg #[.int .i64 a, .int .i64 n, .int .i64 s]) (.agg #[.int .i64 a2, .int .i64 n2, .int .i64 s2])).run Try.prog w = .ok (.bool (!(decide ((a, n, s) = (a2, n2, s2))))) w := by
  rw [run_neq_struct, eqRw]; rfl
theorem eqlRw (a n s a2 n2 s2 : Int) (w : World) : (binOp .eql 31 (.agg #[.int .i64 a, .int .i64 n, .int .i64 s]) (.agg #[.int .i64 a2, .int .i64 n2, .int .i64 s2])).run Try.prog w = .ok (.bool (decide ((a, n, s) = (a2, n2, s2)))) w := by
  rw [run_eql_struct, eqRw]; rfl
set_option maxRecDepth 100000 in
set_option maxHeartbeats 1600000 in
/-- Same of two lists of rows that are one -/
theorem wsame_yes (v v2 : Value) (l : Rws) (w : World) (h : FR rowF w v l) (h2 : FR rowF w v2 l) (hn : l.length ≤ 100000) :
    Calls Try.prog 9 #[v, v2] w fun e w' => e = .returned (.bool true) ∧ AnyLater w w' := by
  obtain ⟨A, cap, rfl, hc⟩ := h.form
  obtain ⟨A2, cap2, rfl, hc2⟩ := h2.form
  have H := Lib.hid (And.intro h h2)
  obtain ⟨n, hl⟩ : ∃ n, l.length = n := ⟨_, rfl⟩
  have HL := Lib.hid hl
  rw [hl] at H hc hc2 hn ⊢
  have gb := wguard
  have nb := neqRw
  clear h h2 hl
  go_enter Try.func9, Try.ntmps9
  go_wp2_with fail
  go_loopg [5] n (fun k i wr => AnyLater w wr ∧ ∃ j : Nat, k = n - j ∧ j ≤ n ∧ i = .int .i64 j)
  case atStart => exact ⟨AnyLater.refl _, 0, by omega, by omega, rfl⟩
  case round =>
    obtain ⟨a_wr, j, hk, hj, rfl⟩ := hrel
    have HA := Lib.hid a_wr
    by_cases hlt : j < n
    · have lj : j < l.length := by rw [HL.out]; exact hlt
      have i1 : (j : Int) < (n : Int) := by omega
      obtain ⟨b, off, rfl, hb, c0, c1, c2⟩ := rowAt (H.out.1.later a_wr) j lj
      obtain ⟨b2, off2, rfl, hb2, e0, e1, e2⟩ := rowAt (H.out.2.later a_wr) j lj
      generalize l[j] = x at *
      obtain ⟨ca, cn, cs⟩ := x
      simp only at c0 c1 c2 e0 e1 e2
      have hd : decide ((ca, cn, cs) = (ca, cn, cs)) = true := decide_eq_true rfl
      clear a_wr
      go_wp2_with fail
      go_quiet (fail)
      go_wp2_with fail
      go_roundg (n - (j + 1))
      case measure => omega
      case rel => exact ⟨HA.out.drewN _, j + 1, rfl, hlt, by go_num⟩
    · obtain rfl : j = n := by omega
      clear a_wr
      go_wp2_with fail
      go_ret
      exact ⟨rfl, HA.out⟩
set_option maxRecDepth 100000 in
set_option maxHeartbeats 1600000 in
/-- slices.Equal of two lists of rows that are one -/
theorem wequal_yes (v v2 : Value) (l : Rws) (w : World) (h : FR rowF w v l) (h2 : FR rowF w v2 l) (hn : l.length ≤ 100000) :
    Calls Try.prog 18 #[v, v2] w fun e w' => e = .returned (.bool true) ∧ AnyLater w w' := by
  obtain ⟨A, cap, rfl, hc⟩ := h.form
  obtain ⟨A2, cap2, rfl, hc2⟩ := h2.form
  have H := Lib.hid (And.intro h h2)
  obtain ⟨n, hl⟩ : ∃ n, l.length = n := ⟨_, rfl⟩
  have HL := Lib.hid hl
  rw [hl] at H hc hc2 hn ⊢
  have gb := wguard
  have nb := neqRw
  clear h h2 hl
  go_enter Try.func18, Try.ntmps18
  go_wp2_with fail
  go_loopg [13] n (fun k i wr => AnyLater w wr ∧ ∃ j : Nat, k = n - j ∧ j ≤ n ∧ i = .int .i64 j)
  case atStart => exact ⟨AnyLater.refl _, 0, by omega, by omega, rfl⟩
  case round =>
    obtain ⟨a_wr, j, hk, hj, rfl⟩ := hrel
    have HA := Lib.hid a_wr
    by_cases hlt : j < n
    · have lj : j < l.length := by rw [HL.out]; exact hlt
      have i1 : (j : Int) < (n : Int) := by omega
      obtain ⟨b, off, rfl, hb, c0, c1, c2⟩ := rowAt (H.out.1.later a_wr) j lj
      obtain ⟨b2, off2, rfl, hb2, e0, e1, e2⟩ := rowAt (H.out.2.later a_wr) j lj
      generalize l[j] = x at *
      obtain ⟨ca, cn, cs⟩ := x
      simp only at c0 c1 c2 e0 e1 e2
      have hd : decide ((ca, cn, cs) = (ca, cn, cs)) = true := decide_eq_true rfl
      clear a_wr
      go_wp2_with fail
      go_quiet (fail)
      go_wp2_with fail
      go_roundg (n - (j + 1))
      case measure => omega
      case rel => exact ⟨HA.out.drewN _, j + 1, rfl, hlt, by go_num⟩
    · obtain rfl : j = n := by omega
      clear a_wr
      go_wp2_with fail
      go_ret
      exact ⟨rfl, HA.out⟩
theorem rowsW_len (l : Cels) (x : Int) : (rowsW l x).length ≤ l.length + 1 := wRows_len _ _ _ _
set_option maxRecDepth 100000 in
set_option maxHeartbeats 1600000 in
/-- Good of just the rows -/
theorem wgood_yes (v u : Value) (l : Cels) (x : Int) (w : World) (hv : FR celF w v l) (hN : CelsOk l) (hl : l.length ≤ 4000) (hx : I64s x) (hu : FR rowF w u (rowsW l x)) :
    Calls Try.prog 11 #[v, .int .i64 x, u] w fun e w' => e = .returned (.bool true) ∧ AnyLater w w' := by
  have HR := Lib.hid (wrows_any v l x w hv hN hl hx)
  have hlen := rowsW_len l x
  generalize rowsW l x = rs at *
  have HQ := Lib.hid (fun w' u' (a : AnyLater w w') (h : FR rowF w' u' rs) => wequal_yes u u' rs w' (hu.later a) h (by omega))
  obtain ⟨A, cap, rfl, hc⟩ := hv.form
  obtain ⟨A2, cap2, rfl, hc2⟩ := hu.form
  generalize l.length = n at *
  generalize rs.length = n2 at *
  clear hv hN hu
  obtain ⟨hx1, hx2⟩ := hx
  go_enter Try.func11, Try.ntmps11
  go_wp2_with fail
  refine HR.out.mono ?_
  rintro e w1 ⟨u1, rfl, b1, o1⟩
  have H1 := Lib.hid (And.intro b1 o1.fr)
  clear b1 o1
  go_wp2_with fail
  refine (HQ.out _ _ H1.out.1 H1.out.2).mono ?_
  rintro e w2 ⟨rfl, b2⟩
  have H2 := Lib.hid (H1.out.1.trans b2)
  clear b2
  go_wp2_with fail
  go_ret
  exact ⟨rfl, H2.out⟩

/-! ### lives -/
def liveC : Cels := [(0, 0, 97, 0), (0, 0, 32, 0), (0, 0, 98, 0), (0, 0, 99, 0)]
theorem live_rows : rowsW liveC 18 = [(0, 2, 12), (2, 4, 12)] := by decide
set_option maxRecDepth 100000 in
set_option maxHeartbeats 3200000 in
theorem wlives_any (w : World) : Calls Try.prog 12 #[] w fun e w' => e = .returned (.bool true) ∧ AnyLater w w' := by
  obtain ⟨w1, hw1⟩ : ∃ w1, w.alloc (.cells #[.int .i64 0, .int .i64 0, .int .i32 97, .int .i64 0, .int .i64 0, .int .i64 0, .int .i32 32, .int .i64 0, .int .i64 0, .int .i64 0, .int .i32 98, .int .i64 0, .int .i64 0, .int .i64 0, .int .i32 99, .int .i64 0] 33) = w1 := ⟨_, rfl⟩
  have a1 : AnyLater w w1 := by rw [← hw1]; exact (AnyLater.refl w).alloc _
  have o1 : FR celF w1 (.slice (some ⟨w.heap.size, 0, none⟩) 4 4) liveC := by
    have hb : w1.heap[w.heap.size]? = some (.cells #[.int .i64 0, .int .i64 0, .int .i32 97, .int .i64 0, .int .i64 0, .int .i64 0, .int .i32 32, .int .i64 0, .int .i64 0, .int .i64 0, .int .i32 98, .int .i64 0, .int .i64 0, .int .i64 0, .int .i32 99, .int .i64 0] 33) := by rw [← hw1]; exact heap_new rfl
    have ho : OF celF 33 w1 0 (.slice (some ⟨w.heap.size, 0, none⟩) 4 4) liveC := ⟨rfl, .inr ⟨w.heap.size, 4, _, rfl, Nat.zero_le _, hb, Nat.le_refl _, by unfold maxLen; omega, rfl, rfl⟩⟩
    exact ho.fr
  have hok : CelsOk liveC := by
    intro c hc
    simp only [liveC, List.mem_cons, List.not_mem_nil, or_false] at hc
    rcases hc with rfl | rfl | rfl | rfl <;> exact ⟨by constructor <;> decide, by constructor <;> decide, by constructor <;> decide, by constructor <;> decide⟩
  have HR := Lib.hid (wrows_any (.slice (some ⟨w.heap.size, 0, none⟩) 4 4) liveC 18 w1 o1 hok (by decide) (by constructor <;> omega))
  have HG := Lib.hid (fun w' u (a : AnyLater w1 w') (h : FR rowF w' u (rowsW liveC 18)) => wgood_yes (.slice (some ⟨w.heap.size, 0, none⟩) 4 4) u liveC 18 w' (o1.later a) hok (by decide) (by constructor <;> omega) h)
  rw [live_rows] at HR HG
  have HA1 := Lib.hid a1
  have gb := wguard
  have nb := eqlRw
  clear o1 a1 hok
  go_enter Try.func12, Try.ntmps12
  go_wp2_with fail
  refine HR.out.mono ?_
  rintro e w2 ⟨u2, rfl, b2, o2⟩
  obtain ⟨A, cap, rfl, hcap⟩ := o2.form
  have HF := Lib.hid (And.intro b2 o2.fr)
  obtain ⟨b, off, rfl, hb, c0, c1, c2⟩ := rowAt o2.fr 0 (by decide)
  simp only [List.length_cons, List.length_nil, Nat.zero_add, Nat.reduceAdd, List.getElem_cons_zero, Nat.zero_mul, Nat.add_zero] at *
  clear b2 o2
  go_wp2_with fail
  refine (HG.out _ _ HF.out.1 HF.out.2).mono ?_
  rintro e w3 ⟨rfl, b3⟩
  have H3 := Lib.hid (HA1.out.trans (HF.out.1.trans b3))
  clear b3
  go_wp2_with fail
  go_ret
  exact ⟨rfl, H3.out⟩
end Go.Proofs.Ytcbcbblclpongaa
