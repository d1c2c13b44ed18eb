/- rope: few bytes of any; the document's own text, as it lies in memory: bytes put in, bytes taken away: by contract. -/
import Derived.Test.YtiicaldnegcdiaaRopM
import Derived.Test.YtiicaldnegcdiaaChain
namespace Go.Proofs.Ytiicaldnegcdiaa
set_option linter.unusedSimpArgs false
set_option linter.unusedVariables false
set_option linter.unusedSectionVars false
open Go.RowKit

/-! ### few -/
set_option maxRecDepth 100000 in
theorem rfew_s (v : Value) (l : List Int) (k : Nat) (w : World) (hv : RN .u8 w v l) (hl : l.length ≤ k) (hk : k ≤ 60000) : Calls Try.prog 70 #[v, .int .i64 (k : Int)] w fun e w' => ∃ u, e = .returned u ∧ AnyLater w w' ∧ ON .u8 5 w' w.heap.size u l := by
  obtain ⟨u, w2, k1, k2, k3⟩ := copy8 hv (by omega)
  have HK := Lib.hid (And.intro k2 k3)
  have K1 := Lib.hid k1
  obtain ⟨A, cap, rfl, -⟩ := hv.form
  have d1 : decide ((k : Int) < (l.length : Int)) = false := decide_eq_false (by omega)
  have d2 : decide (k < l.length) = false := decide_eq_false (by omega)
  clear k1 k2 k3 hv hl
  generalize l.length = n at *
  go_enter Try.func70, Try.ntmps70
  go_wp2_with (at_builtin; refine Lib.wpList_append_run _ rfl _ _ _ _ rfl _ _ rfl rfl _ _ K1.out ?_)
  go_ret
  exact ⟨_, rfl, HK.out.1, HK.out.2⟩
set_option maxRecDepth 100000 in
theorem rfew_l (v : Value) (l : List Int) (k : Nat) (w : World) (hv : RN .u8 w v l) (hl : k < l.length) (hk : k ≤ 60000) : Calls Try.prog 70 #[v, .int .i64 (k : Int)] w fun e w' => ∃ u, e = .returned u ∧ AnyLater w w' ∧ ON .u8 5 w' w.heap.size u (l.take k) := by
  obtain ⟨A0, cap0, hr, hup⟩ := RN.upto hv k (by omega)
  obtain ⟨u, w2, k1, k2, k3⟩ := copy8 hr (by rw [List.length_take]; omega)
  have HK := Lib.hid (And.intro k2 k3)
  have K1 := Lib.hid k1
  obtain ⟨A, cap, rfl, -⟩ := hv.form
  have d1 : (k : Int) < (l.length : Int) := by omega
  clear k1 k2 k3 hv hl hr
  generalize l.length = n at *
  go_enter Try.func70, Try.ntmps70
  go_wp2_with (at_builtin; refine Lib.wpList_append_run _ rfl _ _ _ _ rfl _ _ rfl rfl _ _ K1.out ?_)
  go_ret
  exact ⟨_, rfl, HK.out.1, HK.out.2⟩
/-- the first k of any bytes -/
theorem few_any8 (v : Value) (l m : List Int) (k : Nat) (hm : l.take k = m) (w : World) (hv : RN .u8 w v l) (hk : k ≤ 60000) : Calls Try.prog 70 #[v, .int .i64 (k : Int)] w fun e w' => ∃ u, e = .returned u ∧ AnyLater w w' ∧ ON .u8 5 w' w.heap.size u m := by
  subst hm
  by_cases h : l.length ≤ k
  · rw [List.take_of_length_le h]
    exact rfew_s v l k w hv h hk
  · exact rfew_l v l k w hv (by omega) hk

/-! ### the document's text -/
def IsX (w : World) (g : Nat) (most : Int) (bs : List Int) : Prop := ∃ bv, w.heap[g]? = some (.cells #[bv, .int .i64 most] 41) ∧ RT .u8 5 w bv bs
theorem IsX.later {w w' : World} {g : Nat} {most : Int} {bs : List Int} (h : IsX w g most bs) (ha : AnyLater w w') : IsX w' g most bs := by
  obtain ⟨bv, h1, h2⟩ := h
  exact ⟨bv, any_own ha h1, h2.later ha⟩
/-- an append of the row -/
theorem chain_app {P : Program} {F : Act} {o : Oper} {v : Value} {w w' : World} {R : Value → World → Prop} (s x : Operand) (t tn : TypeId) (ho : o.op = .call { callee := .builtin .append, args := #[s, x], argTypes := #[t, tn] }) (vs vx : Value) (hs : F.eval s = vs) (hx : F.eval x = vx)
    (hr : (Builtin.append_ #[t, tn] o.type #[vs, vx]).run P w = .ok v w') (h : R v w') : ChainStep P F o w R := by
  refine chain_value (w' := w') ?_ h
  unfold execOp
  simp only [ho, resolve, invoke, builtin, Sem.run_bind, Sem.run_pure, Result.andThen_ok, List.map_toArray, List.map_cons, List.map_nil, hs, hx, hr]
def st4 (w0 w1 w2 w3 w4 : World) (j : Nat) (_ : Nat → Value) (x : World) : Prop := match j with
  | 0 => x = w0
  | 1 => x = w1
  | 2 => x = w2
  | 3 => x = w3
  | 4 => x = w4
  | _ => True
set_option maxRecDepth 100000 in
theorem xins_bad (g : Nat) (most x : Int) (bs : List Int) (u : Value) (w : World) (h : IsX w g most bs) (hx : x < 0 ∨ (bs.length : Int) < x) :
    Calls Try.prog 73 #[.pointer (some ⟨g, 0, none⟩), .int .i64 x, u] w fun e w' => e = .returned (.int .i64 1) ∧ AnyLater w w' := by
  obtain ⟨bv, hg, hb⟩ := h
  obtain ⟨A, cap, rfl, -⟩ := hb.form
  have r0 := own_row hg
  clear hg hb
  generalize bs.length = n at *
  by_cases h1 : x < 0
  · clear hx
    go_enter Try.func73, Try.ntmps73
    go_wp2_with fail
    go_ret
    exact ⟨rfl, AnyLater.refl _⟩
  · have h2 : (n : Int) < x := by omega
    have d1 : decide (x < 0) = false := decide_eq_false h1
    clear hx h1
    go_enter Try.func73, Try.ntmps73
    go_wp2_with fail
    go_ret
    exact ⟨rfl, AnyLater.refl _⟩
set_option maxRecDepth 100000 in
theorem xins_full (g : Nat) (most : Int) (i m : Nat) (bs : List Int) (A0 : Option Addr) (cap0 : Nat) (w : World) (h : IsX w g most bs) (hi : i ≤ bs.length) (hm : most - bs.length < m) (hmost : 0 ≤ most ∧ most ≤ 16777216) (hbs : bs.length ≤ 60000) :
    Calls Try.prog 73 #[.pointer (some ⟨g, 0, none⟩), .int .i64 (i : Int), .slice A0 m cap0] w fun e w' => e = .returned (.int .i64 2) ∧ AnyLater w w' := by
  obtain ⟨bv, hg, hb⟩ := h
  obtain ⟨A, cap, rfl, -⟩ := hb.form
  have r0 := own_row hg
  obtain ⟨h1, h2⟩ := hmost
  have d1 : decide ((i : Int) < 0) = false := decide_eq_false (by omega)
  have d2 : decide ((bs.length : Int) < (i : Int)) = false := decide_eq_false (by omega)
  have d3 : decide (bs.length < i) = false := decide_eq_false (by omega)
  clear hg hb hi
  generalize bs.length = n at *
  go_enter Try.func73, Try.ntmps73
  go_wp2_with fail
  try go_quiet (fail)
  go_wp2_with fail
  go_ret
  refine ⟨rfl, ?_⟩
  repeat' (first | with_reducible assumption | with_reducible exact AnyLater.refl _ | with_reducible apply AnyLater.setCell | with_reducible apply AnyLater.later | with_reducible apply AnyLater.drewN | with_reducible apply AnyLater.drew | with_reducible apply AnyLater.alloc | ((try simp only [World.size_alloc, World.size_setCell, World.size_drew]); (try dsimp only); omega))
set_option maxRecDepth 100000 in
set_option maxHeartbeats 1600000 in
theorem xins_yes (g : Nat) (most : Int) (i : Nat) (bs b : List Int) (u : Value) (w : World) (h : IsX w g most bs) (hu : RN .u8 w u b) (hi : i ≤ bs.length) (hm : (bs.length : Int) + b.length ≤ most) (hmost : 0 ≤ most ∧ most ≤ 16777216) (hbs : bs.length + b.length ≤ 60000) :
    Calls Try.prog 73 #[.pointer (some ⟨g, 0, none⟩), .int .i64 (i : Int), u] w fun e w' => e = .returned (.int .i64 0) ∧ But g w w' ∧ IsX w' g most (bs.take i ++ (b ++ bs.drop i)) := by
  obtain ⟨bv, hg, hb⟩ := h
  have HB := Lib.hid hb
  have HU := Lib.hid hu
  have HG := Lib.hid hg
  obtain ⟨A, cap, rfl, -⟩ := hb.form
  obtain ⟨A0, cap0, rfl, -⟩ := hu.form
  obtain ⟨A1, cap1, r1, hup⟩ := RN.upto hb.rn i hi
  obtain ⟨u2, r2, hcut⟩ := RN.cut hb.rn i hi
  have R12 := Lib.hid (And.intro r1 r2)
  have HLen : Hid (bs.length + b.length ≤ 60000 ∧ i ≤ bs.length) := Lib.hid ⟨hbs, hi⟩
  have r0 := own_row hg
  obtain ⟨h1, h2⟩ := hmost
  have d1 : decide ((i : Int) < 0) = false := decide_eq_false (by omega)
  have d2 : decide ((bs.length : Int) < (i : Int)) = false := decide_eq_false (by omega)
  have d3 : decide (bs.length < i) = false := decide_eq_false (by omega)
  have d4 : decide (most - (bs.length : Int) < (b.length : Int)) = false := decide_eq_false (by omega)
  have n9 : bs.length ≤ 60000 := by omega
  clear hg hb hi hu r1 r2 hbs
  generalize hne : bs.length = n at *
  generalize hme : b.length = m at *
  have HNM := Lib.hid (And.intro hne hme)
  clear hne hme
  go_enter Try.func73, Try.ntmps73
  go_wp2_with fail
  go_quiet (fail)
  go_wp2_with fail
  have HA0 : Hid (AnyLater w (w.drewN nq)) := Lib.hid ((AnyLater.refl w).drewN _)
  have s0 : (w.drewN nq).heap[g]? = some (.cells #[.slice A n cap, .int .i64 most] 41) := any_own HA0.out HG.out
  generalize w.drewN nq = w1 at *
  obtain ⟨u8, w8, k1, k2, k3⟩ := copy8 (w := w1.drew) (R12.out.1.later HA0.out.drew) (by rw [List.length_take]; have := HLen.out; have := HNM.out; omega)
  obtain ⟨u9, w9, q1, q2, q3⟩ := app8 k3 (HU.out.later (HA0.out.drew.trans k2)) k2.below.size (by rw [List.length_take]; have := HLen.out; have := HNM.out; omega)
  have hw9 : AnyLater w1.drew w9 := ON.grown k3 (Nat.le_refl _) k2 q3
  obtain ⟨u10, w10, p1, p2, p3⟩ := app8 q2 (R12.out.2.later (HA0.out.drew.trans hw9)) hw9.below.size (by rw [List.length_append, List.length_take, List.length_drop]; have := HLen.out; have := HNM.out; omega)
  have hw10 : AnyLater w1.drew w10 := ON.grown q2 (Nat.le_refl _) hw9 p3
  have K1 := Lib.hid k1
  have K2 := Lib.hid q1
  have K3 := Lib.hid p1
  have HW8 := Lib.hid ((AnyLater.refl w1).drew.trans k2)
  have HW9 := Lib.hid ((AnyLater.refl w1).drew.trans hw9)
  have HW10 := Lib.hid ((AnyLater.refl w1).drew.trans hw10)
  have HO := Lib.hid p2
  obtain ⟨A9, cap9, rfl, -⟩ := p2.form
  have HS0 := Lib.hid s0
  clear k1 k2 k3 q1 q2 q3 p1 p2 p3 hw9 hw10 s0 r0
  generalize (bs.take i ++ b ++ bs.drop i).length = n9' at *
  apply wp_region_chain 20 [(1, .slice (some ⟨w1.heap.size, 0, none⟩) 0 0), (8, u8), (10, u9), (17, .slice A9 n9' cap9)] [] (AnyLater w1) (st4 w1.drew (w1.drew.alloc (.cells #[] 5)) w8 w9 w10) (by kernel_rfl) (by kernel_rfl) (by kernel_rfl) (by simp) (by kernel_rfl) (AnyLater.refl w1).drew (fun _ => rfl)
  case hlex =>
    intro U hU
    have r0 := own_row (any_own hU HS0.out)
    simp only [actFrom, actOp, List.lookup, Nat.reduceBEq, Nat.reduceLeDiff, Nat.reduceAdd, if_false, if_true]
    repeat (go_big_quiet_step (fail))
    exact wpQuiet_nil rfl
  case hact =>
    intro i hi o ho
    have hj3 : i = 0 ∨ i = 1 ∨ i = 2 ∨ i = 3 := by simp at hi; omega
    rcases hj3 with rfl | rfl | rfl | rfl
    · cases ho
      refine ⟨rfl, fun g x hC hS => ?_⟩
      obtain rfl : x = w1.drew := hS
      exact chain_value (w' := w1.drew.alloc (.cells #[] 5)) (by simp [go_sem, execOp]) ⟨hC.alloc _, .inr rfl, rfl⟩
    · cases ho
      refine ⟨rfl, fun g x hC hS => ?_⟩
      obtain rfl : x = w1.drew.alloc (.cells #[] 5) := hS
      simp only [fillAll, Act.put, List.setIfInBounds_toArray, List.set_cons_zero, List.set_cons_succ]
      exact chain_app _ _ _ _ rfl _ _ rfl rfl K1.out ⟨HW8.out, .inr rfl, rfl⟩
    · cases ho
      refine ⟨rfl, fun g x hC hS => ?_⟩
      obtain rfl : x = w8 := hS
      simp only [fillAll, Act.put, List.setIfInBounds_toArray, List.set_cons_zero, List.set_cons_succ]
      exact chain_app _ _ _ _ rfl _ _ rfl rfl K2.out ⟨HW9.out, .inr rfl, rfl⟩
    · cases ho
      refine ⟨rfl, fun g x hC hS => ?_⟩
      obtain rfl : x = w9 := hS
      simp only [fillAll, Act.put, List.setIfInBounds_toArray, List.set_cons_zero, List.set_cons_succ]
      exact chain_app _ _ _ _ rfl _ _ rfl rfl K3.out ⟨HW10.out, .inr rfl, rfl⟩
  case htail =>
    intro gz wz hC hS
    obtain rfl : wz = w10 := hS
    clear hC
    simp only [fillAll, Act.put, List.setIfInBounds_toArray, List.set_cons_zero, List.set_cons_succ, List.drop_succ_cons, List.drop_zero, List.drop_nil]
    clear hup hcut
    have s1 := any_own HW10.out HS0.out
    have r1 := own_row s1
    have f1 := own_free s1
    go_wp2_with fail
    go_ret
    refine ⟨rfl, (But.of (HA0.out.trans HW10.out)).setCell 0 _, _, heap_at s1 rfl, ?_⟩
    have h9 := RT.far (g := g) (i := 0) (x := .slice A9 n9' cap9) (ON.rt HO.out) s1 (by decide)
    rw [List.append_assoc] at h9
    exact h9
end Go.Proofs.Ytiicaldnegcdiaa
